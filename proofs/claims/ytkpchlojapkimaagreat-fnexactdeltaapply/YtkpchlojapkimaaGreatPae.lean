/-
  Texts laid together: Ma, Mb, Mc, Mda, Ms, Em, Mh, Gfs.
-/
import Derived.Test.YtkpchlojapkimaaGreatRf
import Derived.BigQuiet
import Derived.Test.YtkpchlojapkimaaGreatSc
import Derived.Test.YtkpchlojapkimaaGreatEc
import Derived.Deep.RegionHeld3
namespace Go.Proofs.YtkpchlojapkimaaGreat.Rl
set_option maxRecDepth 8000
set_option linter.unusedSimpArgs false
set_option linter.unusedVariables false
open Go Go.RowKit
open Num Word Pl Rp

def dgt (d : Nat) : UInt8 := UInt8.ofNat (48 + d)
theorem one_byte (W : World) (b d : Nat) (hd : d < 10) (h : W.cell? ⟨b, 0, none⟩ = some (.int .u8 (48 + (d : Int)))) :
    (convert 22 9 (.slice (some ⟨b, 0, none⟩) 1 1)).run Tryz.prog W = .ok (.string ⟨#[dgt d]⟩) W := by
  have e : (((dgt d).toNat : Nat) : Int) = 48 + (d : Int) := by unfold dgt; simp only [UInt8.toNat_ofNat']; omega
  have := run_convert_bytes_back (P := Tryz.prog) W 22 9 5 ⟨b, 0, none⟩ 1 [dgt d] Tryz.underlying22 Tryz.underlying5 Tryz.underlying9 (fun j hj => by
    have : j = 0 := by simpa using hj
    subst this
    rw [show ([dgt d][0]'hj) = dgt d from rfl, e]
    simpa [Addr.add] using h)
  simpa using this
/-- The digits of k ahead of what is there; f: no more steps than that. -/
def mtF : Nat → Nat → ByteArray → ByteArray
  | 0, _, s => s
  | f + 1, k, s => if k = 0 then s else mtF f (k / 10) (⟨#[dgt (k % 10)]⟩ ++ s)
theorem mtF_more : ∀ (f k : Nat) (s : ByteArray), k ≤ f → mtF (f + 1) k s = mtF f k s
  | 0, k, s, h => by have : k = 0 := by omega
                     subst this; rfl
  | f + 1, k, s, h => by
    show (if k = 0 then s else mtF (f + 1) (k / 10) (⟨#[dgt (k % 10)]⟩ ++ s)) = (if k = 0 then s else mtF f (k / 10) (⟨#[dgt (k % 10)]⟩ ++ s))
    by_cases e : k = 0
    · rw [if_pos e, if_pos e]
    · rw [if_neg e, if_neg e]
      exact mtF_more f (k / 10) _ (by omega)
def mtG (k : Nat) (s : ByteArray) : ByteArray := mtF k k s
theorem mtF_eq : ∀ (f k : Nat) (s : ByteArray), k ≤ f → mtF f k s = mtG k s := by
  intro f
  induction f with
  | zero => intro k s h; have : k = 0 := by omega
            subst this; rfl
  | succ f ih =>
    intro k s h
    by_cases e : k = f + 1
    · subst e; rfl
    · rw [mtF_more f k s (by omega)]; exact ih k s (by omega)
theorem mtG_step {k : Nat} (h : 0 < k) (s : ByteArray) : mtG k s = mtG (k / 10) (⟨#[dgt (k % 10)]⟩ ++ s) := by
  obtain ⟨f, rfl⟩ : ∃ f, k = f + 1 := ⟨k - 1, by omega⟩
  unfold mtG
  rw [mtF, if_neg (by omega)]
  exact mtF_eq f _ _ (by omega)
theorem mtG_zero (s : ByteArray) : mtG 0 s = s := rfl
/-- The text of a mark. -/
def mt (k : Nat) : ByteArray := ⟨#[109]⟩ ++ mtG k ⟨#[]⟩

set_option maxHeartbeats 1000000 in
theorem text_any (k0 : Nat) (h0 : 0 < k0) (h1 : k0 ≤ 1000000000000) (w : World) :
    Calls Tryz.prog 122 #[.int .i64 k0] w fun e w' => e = .returned (.string (mt k0)) ∧ Below w.heap.size w w' := by
  have hk : ¬ (k0 : Int) ≤ 0 := by omega
  unfold mt
  obtain ⟨R, hR⟩ : ∃ R, R = mtG k0 ⟨#[]⟩ := ⟨_, rfl⟩
  rw [← hR]
  have H0 : Hid (mtG k0 ⟨#[]⟩ = R) := hR.symm
  clear hR
  go_enter Tryz.func122, Tryz.ntmps122
  go_wp2
  go_loopw [0, 3] (fun a b wr => ∃ (k : Nat) (s : ByteArray), k ≤ k0 ∧ a = .int .i64 k ∧ b = .string s ∧ Below w.heap.size w wr ∧ mtG k s = R ∧ s.size + k ≤ k0) (fun a _ _ => (intOf a).toNat)
  case atStart => exact ⟨k0, _, Nat.le_refl _, rfl, rfl, Below.refl _ _, H0.out, by show 0 + k0 ≤ k0; omega⟩
  case round =>
    obtain ⟨k, s, hk, rfl, rfl, hbel, hm, hsz⟩ := hrel
    have HSz : Hid (s.size + k ≤ k0) := hsz
    have hs1 : s.size ≤ 1000000000000 := by omega
    clear hsz
    by_cases hp : 0 < k
    · have hpz : (0 : Int) < (k : Int) := by omega
      have HM : Hid (mtG (k / 10) (⟨#[dgt (k % 10)]⟩ ++ s) = R) := (mtG_step hp s).symm.trans hm
      clear hm
      obtain ⟨d, hd⟩ : ∃ d, d = k % 10 := ⟨_, rfl⟩
      obtain ⟨q, hq⟩ : ∃ q, q = k / 10 := ⟨_, rfl⟩
      rw [← hd, ← hq] at HM
      have hq2 : q < k := by omega
      have e1 : Int.tmod (k : Int) 10 = (d : Int) := by rw [hd]; simp [Int.tmod]
      have e2 : Int.tdiv (k : Int) 10 = (q : Int) := by rw [hq]; rfl
      have hd9 : d < 10 := by omega
      clear hd hq
      have hB := below_alloc1 wr (.cells #[.int .u8 (48 + (d : Int))] 5)
      have hcv := one_byte (wr.alloc (.cells #[.int .u8 (48 + (d : Int))] 5)) wr.heap.size d hd9 (one (at_new rfl))
      go_wp2
      go_roundw
      case rel => exact ⟨q, _, by omega, rfl, rfl, Rw.next hbel hB, HM.out, by have := HSz.out; rw [ByteArray.size_append]; show 1 + s.size + q ≤ k0; omega⟩
      case measure => simp [intOf]; omega
    · have e : k = 0 := by omega
      subst e
      rw [mtG_zero] at hm
      have HM : Hid (s = R) := hm
      clear hm
      go_wp2
      go_ret
      exact ⟨by rw [← HM.out]; rfl, hbel⟩

end Go.Proofs.YtkpchlojapkimaaGreat.Rl

namespace Go.Proofs.YtkpchlojapkimaaGreat.Rl
set_option maxRecDepth 8000
set_option linter.unusedSimpArgs false
set_option linter.unusedVariables false
open Go Go.RowKit
open Num Word Pl Rp

/-- All blocks are kept but those that p tells. -/
structure Kp (p : Nat → Prop) (w w' : World) : Prop where
  os : w'.os = w.os
  tape : w'.tape = w.tape
  output : w'.output = w.output
  size : w.heap.size ≤ w'.heap.size
  block : ∀ x, x < w.heap.size → ¬ p x → w'.heap[x]? = w.heap[x]?
theorem Kp.refl (p : Nat → Prop) (w : World) : Kp p w w := ⟨rfl, rfl, rfl, Nat.le_refl _, fun _ _ _ => rfl⟩
theorem Kp.next {p : Nat → Prop} {w w1 w2 : World} (h : Kp p w w1) (k : Below w1.heap.size w1 w2) : Kp p w w2 :=
  ⟨k.os.trans h.os, k.tape.trans h.tape, k.output.trans h.output, Nat.le_trans h.size k.size, fun x hx hp => (k.block x (Nat.lt_of_lt_of_le hx h.size)).trans (h.block x hx hp)⟩
theorem Kp.trans {p : Nat → Prop} {w w1 w2 : World} (h : Kp p w w1) (k : Kp p w1 w2) : Kp p w w2 :=
  ⟨k.os.trans h.os, k.tape.trans h.tape, k.output.trans h.output, Nat.le_trans h.size k.size, fun x hx hp => (k.block x (Nat.lt_of_lt_of_le hx h.size) hp).trans (h.block x hx hp)⟩
theorem Kp.imp {p q : Nat → Prop} {w w1 : World} (h : Kp p w w1) (hi : ∀ x, p x → q x) : Kp q w w1 :=
  ⟨h.os, h.tape, h.output, h.size, fun x hx hp => h.block x hx fun k => hp (hi x k)⟩
theorem Kp.set {p : Nat → Prop} {w w1 : World} {a : Addr} {u : Value} (h : Kp p w w1) (ha : p a.block) : Kp p w (w1.setCell a u) :=
  ⟨h.os, h.tape, h.output, by simpa [World.setCell] using h.size, fun x hx hp => (Below.heap_setCell _ _ _ _ (fun e : x = a.block => hp (by rw [e]; exact ha))).trans (h.block x hx hp)⟩
theorem Kp.below {p : Nat → Prop} {n : Nat} {w0 w w1 : World} (h : Kp p w w1) (hb : Below n w0 w) (hn : n ≤ w.heap.size) (hp : ∀ x, p x → n ≤ x) : Below n w0 w1 :=
  ⟨h.os.trans hb.os, h.tape.trans hb.tape, h.output.trans hb.output, Nat.le_trans hb.size h.size, fun x hx => (h.block x (by omega) (fun k => by have := hp x k; omega)).trans (hb.block x hx)⟩

/-- The mark of cell j, from number k on. -/
def mkF (k j : Nat) : Value := if j % 2 = 0 then .int .i64 ((k + j : Nat) : Int) else .string (mt (k + j))
def mixF (k : Nat) (l : RowL) (m j : Nat) : Value := if j < m * 2 then mkF k j else Vl.flat l j
theorem mix_step {w : World} {b n k : Nat} {l : RowL} {m : Nat} (h : WtV w b n (mixF k l m)) :
    WtV ((w.setCell ⟨b, m * 2, none⟩ (.int .i64 ((k + m * 2 : Nat) : Int))).setCell ⟨b, m * 2 + 1, none⟩ (.string (mt (k + m * 2 + 1)))) b n (mixF k l (m + 1)) := by
  refine ((h.set _ _).set _ _).congr fun j hj => ?_
  unfold mixF mkF
  by_cases e1 : j = m * 2 + 1
  · subst e1; rw [if_pos rfl, if_pos (by omega), if_neg (by omega)]; rfl
  · rw [if_neg e1]
    by_cases e0 : j = m * 2
    · subst e0; rw [if_pos rfl, if_pos (by omega), if_pos (by omega)]
    · rw [if_neg e0]
      have : (j < (m + 1) * 2) = (j < m * 2) := by rw [eq_iff_iff]; omega
      simp [this]

set_option maxHeartbeats 2000000 in
theorem markV_any (k0 : Nat) (h0 : 0 < k0) (h1 : k0 ≤ 100000000000) (a : Option Addr) (b cap : Nat) (l : RowL) (w : World) (hs : l.length ≤ 4194304) (hl : l.length ≠ 0 → a = some ⟨b, 0, none⟩ ∧ WtV w b (l.length * 2) (Vl.flat l)) :
    Calls Tryz.prog 151 #[.slice a l.length cap, .int .i64 k0] w fun e w' => e = .returned (.int .i64 ((k0 + l.length * 2 : Nat) : Int)) ∧ Kp (fun x => l.length ≠ 0 ∧ x = b) w w' ∧ (l.length ≠ 0 → WtV w' b (l.length * 2) (mkF k0)) := by
  obtain ⟨n, hn⟩ : ∃ n, n = l.length := ⟨_, rfl⟩
  rw [← hn] at hs hl ⊢
  have HW : Hid (n ≠ 0 → WtV w b (n * 2) (mixF k0 l 0)) := fun h => (hl h).2.congr fun j hj => by simp [mixF]
  have HA : Hid (n ≠ 0 → a = some ⟨b, 0, none⟩) := fun h => (hl h).1
  clear hl hn
  go_enter Tryz.func151, Tryz.ntmps151
  go_wp2
  go_loopw [1, 5] (fun q i wr => ∃ k : Nat, k ≤ n ∧ i = .int .i64 k ∧ q = .int .i64 ((k0 + k * 2 : Nat) : Int) ∧ Kp (fun x => n ≠ 0 ∧ x = b) w wr ∧ (n ≠ 0 → WtV wr b (n * 2) (mixF k0 l k))) (fun _ i _ => n - (intOf i).toNat)
  case atStart => exact ⟨0, Nat.zero_le _, rfl, rfl, Kp.refl _ _, HW.out⟩
  case round =>
    obtain ⟨k, hk, rfl, rfl, hkp, hw⟩ := hrel
    by_cases hlt : k < n
    · obtain rfl := HA.out (by omega)
      have hkz : (k : Int) < (n : Int) := by omega
      have wt := hw (by omega)
      clear hw
      have g0 := wt.cell (i := k * 2) (by omega)
      have g1 := wt.cell (i := k * 2 + 1) (by omega)
      have f0 := wt.frozen (k * 2)
      have e0 : mixF k0 l k (k * 2) = .int .i64 (l.getD k Vl.z2).1 := by unfold mixF; rw [if_neg (by omega), Vl.flat0]
      have e1 : mixF k0 l k (k * 2 + 1) = .string (l.getD k Vl.z2).2 := by unfold mixF; rw [if_neg (by omega), Vl.flat1]
      rw [e0] at g0
      rw [e1] at g1
      clear e0 e1
      generalize (l.getD k Vl.z2).1 = y0 at g0
      generalize (l.getD k Vl.z2).2 = y1 at g1
      obtain ⟨K1, hK1⟩ : ∃ K1 : Nat, K1 = k0 + k * 2 := ⟨_, rfl⟩
      have eK : (K1 : Int) + 1 = ((K1 + 1 : Nat) : Int) := by omega
      have hKb : K1 + 1 ≤ 1000000000000 := by omega
      rw [← hK1]
      obtain ⟨K2, hK2⟩ : ∃ K2 : Nat, K2 = K1 + 1 := ⟨_, rfl⟩
      rw [← hK2] at eK hKb
      have hT := fun W => text_any K2 (by omega) hKb W
      have HKK : Hid (K1 = k0 + k * 2 ∧ K2 = k0 + k * 2 + 1) := ⟨hK1, by omega⟩
      have hb2 : (K2 : Int) ≤ 1000000000000 := by omega
      have hb3 : (0 : Int) ≤ (K2 : Int) := by omega
      have hb4 : (K1 : Int) ≤ 1000000000000 := by omega
      have hb5 : (0 : Int) ≤ (K1 : Int) := by omega
      have lb := wt.lt
      have wt1 := wt.set (k * 2) (.int .i64 K1)
      clear hK1 hK2
      have g2 := wt1.cell (i := k * 2 + 1) (by omega)
      have g3 : (if k * 2 + 1 = k * 2 then Value.int .i64 K1 else mixF k0 l k (k * 2 + 1)) = mixF k0 l k (k * 2 + 1) := if_neg (by omega)
      rw [g3] at g2
      go_wp2_with (go_at_call 122; refine (hT _).mono ?_; rintro e w1 ⟨rfl, hb⟩; have lb1 := wt1.lt; replace wt1 := wt1.of_block (hb.block _ lb1); have g4 := wt1.cell (i := k * 2 + 1) (by omega); rw [g3] at g4; have f4 := wt1.frozen (k * 2 + 1); have HB : Hid (Below (w1).heap.size w1 w1) := Below.refl _ _)
      go_roundw
      case rel =>
        obtain ⟨q1, q2⟩ := HKK.out
        refine ⟨k + 1, by omega, by go_num, by simp only [Value.int.injEq, true_and]; omega, ((hkp.set (a := ⟨b, k * 2, none⟩) (u := .int .i64 K1) ⟨by omega, rfl⟩).next hb).set ⟨by omega, rfl⟩, fun _ => ?_⟩
        refine (wt1.set (k * 2 + 1) (.string (mt K2))).congr fun j hj => ?_
        unfold mixF mkF
        by_cases e1 : j = k * 2 + 1
        · subst e1; rw [if_pos rfl, if_pos (by omega), if_neg (by omega), q2]; rfl
        · rw [if_neg e1]
          by_cases e0 : j = k * 2
          · subst e0; rw [if_pos rfl, if_pos (by omega), if_pos (by omega), q1]
          · rw [if_neg e0]
            have : (j < (k + 1) * 2) = (j < k * 2) := by rw [eq_iff_iff]; omega
            simp [this]
      case measure => simp [intOf]; omega
    · have he : k = n := by omega
      subst he
      go_wp2
      go_ret
      exact ⟨rfl, hkp, fun h => (hw h).congr fun j hj => by simp [mixF, hj]⟩

set_option maxHeartbeats 2000000 in
theorem heldV_any (k0 : Nat) (h0 : 0 < k0) (h1 : k0 ≤ 100000000000) (a : Option Addr) (b cap n : Nat) (w : World) (hs : n ≤ 4194304) (hl : n ≠ 0 → a = some ⟨b, 0, none⟩ ∧ WtV w b (n * 2) (mkF k0)) :
    Calls Tryz.prog 152 #[.slice a n cap, .int .i64 k0] w fun e w' => e = .returned (.int .i64 ((k0 + n * 2 : Nat) : Int)) ∧ Below w.heap.size w w' := by
  have HW : Hid (n ≠ 0 → WtV w b (n * 2) (mkF k0)) := fun h => (hl h).2
  have HA : Hid (n ≠ 0 → a = some ⟨b, 0, none⟩) := fun h => (hl h).1
  clear hl
  go_enter Tryz.func152, Tryz.ntmps152
  go_wp2
  go_loopw [1, 5] (fun q i wr => ∃ k : Nat, k ≤ n ∧ i = .int .i64 k ∧ q = .int .i64 ((k0 + k * 2 : Nat) : Int) ∧ Below w.heap.size w wr) (fun _ i _ => n - (intOf i).toNat)
  case atStart => exact ⟨0, Nat.zero_le _, rfl, rfl, Below.refl _ _⟩
  case round =>
    obtain ⟨k, hk, rfl, rfl, hbel⟩ := hrel
    by_cases hlt : k < n
    · obtain rfl := HA.out (by omega)
      have hkz : (k : Int) < (n : Int) := by omega
      have hk0 : (0 : Int) ≤ (k : Int) := by omega
      have wt0 := HW.out (by omega)
      have wt := wt0.of_block (hbel.block _ wt0.lt)
      have g0 := wt.cell (i := k * 2) (by omega)
      have g1 := wt.cell (i := k * 2 + 1) (by omega)
      have e0 : mkF k0 (k * 2) = .int .i64 ((k0 + k * 2 : Nat) : Int) := by unfold mkF; rw [if_pos (by omega)]
      have e1 : mkF k0 (k * 2 + 1) = .string (mt (k0 + k * 2 + 1)) := by unfold mkF; rw [if_neg (by omega)]; rfl
      rw [e0] at g0
      rw [e1] at g1
      clear e0 e1 wt wt0
      obtain ⟨K1, hK1⟩ : ∃ K1 : Nat, K1 = k0 + k * 2 := ⟨_, rfl⟩
      rw [← hK1] at g0 g1 ⊢
      obtain ⟨K2, hK2⟩ : ∃ K2 : Nat, K2 = K1 + 1 := ⟨_, rfl⟩
      rw [← hK2] at g1
      have eK : (K1 : Int) + 1 = (K2 : Int) := by omega
      have hT := fun W => text_any K2 (by omega) (by omega) W
      have HKK : Hid (K1 = k0 + k * 2 ∧ K2 = k0 + k * 2 + 1) := ⟨hK1, by omega⟩
      have hb2 : (K2 : Int) ≤ 1000000000000 := by omega
      have hb3 : (0 : Int) ≤ (K2 : Int) := by omega
      have hb4 : (K1 : Int) ≤ 1000000000000 := by omega
      have hb5 : (0 : Int) ≤ (K1 : Int) := by omega
      have lb := World.block_lt_of_cell? _ _ g1
      generalize mt K2 = S at g1 hT
      have hq : (S.toList == S.toList) = true := by simp
      have hq2 : (S.toList != S.toList) = false := by simp
      clear hK1 hK2
      go_wp2
      go_region_held3 (fun w' => w'.cell? ⟨b, k * 2 + 1, none⟩ = some (.string S)) (go_keep) (first
        | (go_at_call 122; refine (hT _).mono ?_; rintro e w1 ⟨rfl, hb⟩; replace hb := Rw.next ((Below.refl _ _).drew) hb; replace hbel := Rw.next hbel hb; replace g1 := (hb.cell lb).trans g1))
      go_wp2
      go_roundw
      case rel => exact ⟨k + 1, by omega, by go_num, by have := HKK.out; simp only [Value.int.injEq, true_and]; omega, hbel⟩
      case measure => simp [intOf]; omega
    · have he : k = n := by omega
      subst he
      go_wp2
      go_ret
      exact ⟨rfl, hbel⟩

end Go.Proofs.YtkpchlojapkimaaGreat.Rl

namespace Go.Proofs.YtkpchlojapkimaaGreat.Rl
set_option maxRecDepth 8000
set_option linter.unusedSimpArgs false
set_option linter.unusedVariables false
open Go Go.RowKit
open Num Word Pl Rp

/-- How many values the first i rows have. -/
def cnt (Q : List Rm) : Nat → Nat
  | 0 => 0
  | i + 1 => cnt Q i + (Q.getD i rm0).l.length
theorem cnt_mono (Q : List Rm) {i j : Nat} (h : i ≤ j) : cnt Q i ≤ cnt Q j := by
  induction j with
  | zero => have : i = 0 := by omega
            subst this; exact Nat.le_refl _
  | succ j ih =>
    by_cases e : i = j + 1
    · subst e; exact Nat.le_refl _
    · have := ih (by omega)
      simp only [cnt]; omega
def UseQ (Q : List Rm) (x : Nat) : Prop := ∃ r ∈ Q, r.l.length ≠ 0 ∧ x = r.b
structure MkQ (w : World) (k0 : Nat) (a : Option Addr) (b : Nat) (Q : List Rm) : Prop where
  head : 0 < Q.length → a = some ⟨b, 0, none⟩
  cell : ∀ i, i < Q.length → w.cell? ⟨b, i, none⟩ = some (Q.getD i rm0).val
  mark : ∀ i, i < Q.length → (Q.getD i rm0).l.length ≠ 0 → (Q.getD i rm0).a = some ⟨(Q.getD i rm0).b, 0, none⟩ ∧ WtV w (Q.getD i rm0).b ((Q.getD i rm0).l.length * 2) (mkF (k0 + cnt Q i * 2))
  size : Q.length ≤ 4194304
  sizes : ∀ i, i < Q.length → (Q.getD i rm0).l.length ≤ 4194304
theorem MkQ.below {w w' : World} {k0 : Nat} {a : Option Addr} {b : Nat} {Q : List Rm} (h : MkQ w k0 a b Q) (hb : Below w.heap.size w w') : MkQ w' k0 a b Q :=
  ⟨h.head, fun i hi => (hb.cell (World.block_lt_of_cell? _ _ (h.cell i hi))).trans (h.cell i hi), fun i hi h0 => by obtain ⟨h1, h2⟩ := h.mark i hi h0; exact ⟨h1, h2.of_block (hb.block _ h2.lt)⟩, h.size, h.sizes⟩
theorem own_far {w : World} {lo hi : Nat} {a : Option Addr} {b : Nat} {Q : List Rm} (h : Own w lo hi a b Q) : Q.length = 0 ∨ ¬ UseQ Q b := by
  rcases h.blk with h0 | ⟨_, cs, hk⟩
  · exact .inl h0
  · refine .inr fun ⟨r, hr, hl, e⟩ => ?_
    obtain ⟨_, _, _, c2, h2, _⟩ := h.each r hr hl
    rw [← e, hk] at h2
    simp at h2
theorem own_diff {w : World} {lo hi : Nat} {a : Option Addr} {b : Nat} {Q : List Rm} (h : Own w lo hi a b Q) {i j : Nat} (hi : i < Q.length) (hj : j < Q.length) (hij : i ≠ j) (h1 : (Q.getD i rm0).l.length ≠ 0) (h2 : (Q.getD j rm0).l.length ≠ 0) : (Q.getD i rm0).b ≠ (Q.getD j rm0).b := by
  have pa : ∀ i j, (hi : i < Q.length) → (hj : j < Q.length) → i < j → (Q.getD i rm0).l.length ≠ 0 → (Q.getD j rm0).l.length ≠ 0 → (Q.getD i rm0).b ≠ (Q.getD j rm0).b := fun i j hi hj hij => by
    have := List.pairwise_iff_getElem.1 h.diff i j hi hj hij
    simpa [List.getD, hi, hj] using this
  rcases Nat.lt_or_ge i j with q | q
  · exact pa i j hi hj q h1 h2
  · exact fun e => pa j i hj hi (by omega) h2 h1 e.symm

set_option maxHeartbeats 2000000 in
theorem markT_any (k0 : Nat) (h0 : 0 < k0) (a : Option Addr) (b cap lo hi : Nat) (Q : List Rm) (w : World) (h : Own w lo hi a b Q) (h1 : k0 + cnt Q Q.length * 2 ≤ 100000000000) :
    Calls Tryz.prog 123 #[.slice a Q.length cap, .int .i64 k0] w fun e w' => e = .returned (.int .i64 ((k0 + cnt Q Q.length * 2 : Nat) : Int)) ∧ Kp (UseQ Q) w w' ∧ MkQ w' k0 a b Q := by
  have hfar := own_far h
  have HD : Hid (∀ i j, i < Q.length → j < Q.length → i ≠ j → (Q.getD i rm0).l.length ≠ 0 → (Q.getD j rm0).l.length ≠ 0 → (Q.getD i rm0).b ≠ (Q.getD j rm0).b) := fun i j hi hj hij a1 a2 => own_diff h hi hj hij a1 a2
  have HE : Hid (∀ i, i < Q.length → (Q.getD i rm0).l.length ≠ 0 → (Q.getD i rm0).a = some ⟨(Q.getD i rm0).b, 0, none⟩ ∧ WtV w (Q.getD i rm0).b ((Q.getD i rm0).l.length * 2) (Vl.flat (Q.getD i rm0).l)) := fun i hi h0 => by obtain ⟨e1, _, _, e2⟩ := h.each _ (getD_mem hi) h0; exact ⟨e1, e2⟩
  have HU : Hid (∀ i, i < Q.length → (Q.getD i rm0).l.length ≠ 0 → UseQ Q (Q.getD i rm0).b) := fun i hi h0 => ⟨_, getD_mem hi, h0, rfl⟩
  obtain ⟨hh, hc, ho, hs⟩ := h.rd
  have HSz : Hid (∀ i, i < Q.length → (Q.getD i rm0).l.length ≤ 4194304) := fun i hi => (ho i hi).size
  have hc0 : ∀ i, i < Q.length → w.cell? ⟨b, i, none⟩ = some (Q.getD i rm0).val := fun i hi => by have := hc i hi; rwa [Nat.zero_add] at this
  have HF : Hid (Q.length = 0 ∨ ¬ UseQ Q b) := hfar
  have HK : Hid (∀ i, i ≤ Q.length → k0 + cnt Q i * 2 ≤ 100000000000) := fun i hi => by have := cnt_mono Q hi; omega
  have HC : Hid (∀ i, cnt Q (i + 1) = cnt Q i + (Q.getD i rm0).l.length) := fun i => rfl
  have H2 : Hid (∀ i, 0 < k0 + cnt Q i * 2) := fun i => by omega
  clear hc ho h hfar h1
  obtain ⟨n, hn⟩ : ∃ n, n = Q.length := ⟨_, rfl⟩
  rw [← hn] at hh hc0 hs HD HE HU HSz HF HK ⊢
  have HN : Hid (n = Q.length) := hn
  clear hn
  go_enter Tryz.func123, Tryz.ntmps123
  go_wp2
  go_loopw [1, 5] (fun q i wr => ∃ k : Nat, k ≤ n ∧ i = .int .i64 k ∧ q = .int .i64 ((k0 + cnt Q k * 2 : Nat) : Int) ∧ Kp (UseQ Q) w wr ∧ (∀ j, j < n → (Q.getD j rm0).l.length ≠ 0 → WtV wr (Q.getD j rm0).b ((Q.getD j rm0).l.length * 2) (if j < k then mkF (k0 + cnt Q j * 2) else Vl.flat (Q.getD j rm0).l))) (fun _ i _ => n - (intOf i).toNat)
  case atStart => exact ⟨0, Nat.zero_le _, rfl, by simp [cnt], Kp.refl _ _, fun j hj h0 => by rw [if_neg (by omega)]; exact (HE.out j hj h0).2⟩
  case round =>
    obtain ⟨k, hk, rfl, rfl, hkp, hw⟩ := hrel
    have HW : Hid (∀ j, j < n → (Q.getD j rm0).l.length ≠ 0 → WtV wr (Q.getD j rm0).b ((Q.getD j rm0).l.length * 2) (if j < k then mkF (k0 + cnt Q j * 2) else Vl.flat (Q.getD j rm0).l)) := hw
    clear hw
    by_cases hlt : k < n
    · obtain rfl := hh (by omega)
      have hkz : (k : Int) < (n : Int) := by omega
      have c0 := (World.cell?_of_block (hkp.block b (World.block_lt_of_cell? _ _ (hc0 k hlt)) (HF.out.resolve_left (by omega)))).trans (hc0 k hlt)
      have e0 := fun h0 => (HE.out k hlt h0).1
      have w0 := fun h0 => HW.out k hlt h0
      rw [if_neg (by omega : ¬ k < k)] at w0
      have sz := HSz.out k hlt
      have hC := HC.out k
      have hU := HU.out k hlt
      have hDk : ∀ j, j < n → j ≠ k → (Q.getD j rm0).l.length ≠ 0 → (Q.getD k rm0).l.length ≠ 0 → (Q.getD j rm0).b ≠ (Q.getD k rm0).b := fun j hj hjk a1 a2 => HD.out j k hj hlt hjk a1 a2
      have HDk : Hid (∀ j, j < n → j ≠ k → (Q.getD j rm0).l.length ≠ 0 → (Q.getD k rm0).l.length ≠ 0 → (Q.getD j rm0).b ≠ (Q.getD k rm0).b) := hDk
      have HX : Hid (∀ j, j = k → Q.getD j rm0 = Q.getD k rm0) := fun j e => by rw [e]
      clear hDk
      generalize Q.getD k rm0 = x at c0 e0 w0 sz hC hU HDk HX
      obtain ⟨xa, xb, xo, xc, xl⟩ := x
      simp only [Rm.val] at c0 e0 w0 sz hC hU HDk HX
      obtain ⟨K, hK⟩ : ∃ K : Nat, K = k0 + cnt Q k * 2 := ⟨_, rfl⟩
      have hM := markV_any K (by rw [hK]; exact H2.out k) (by rw [hK]; exact HK.out k (by omega)) xa xb xc xl wr sz (fun h0 => ⟨e0 h0, w0 h0⟩)
      rw [← hK]
      have HKe : Hid (K = k0 + cnt Q k * 2) := hK
      have HCe : Hid (cnt Q (k + 1) = cnt Q k + xl.length) := hC
      clear hK hC e0 w0
      go_wp2_with (go_at_call 151; refine hM.mono ?_; rintro e w1 ⟨rfl, kp1, mk1⟩)
      go_roundw
      case rel =>
        refine ⟨k + 1, by omega, by go_num, by rw [HCe.out, HKe.out]; congr 2; omega, hkp.trans (kp1.imp fun x ⟨q1, q2⟩ => by rw [q2]; exact hU q1), fun j hj h0 => ?_⟩
        by_cases e : j = k
        · have ex := HX.out j e
          rw [ex] at h0 ⊢
          simp only at h0 ⊢
          rw [if_pos (by omega), e, ← HKe.out]
          exact mk1 h0
        · have q := HW.out j hj h0
          have hif : (if j < k + 1 then mkF (k0 + cnt Q j * 2) else Vl.flat (Q.getD j rm0).l) = (if j < k then mkF (k0 + cnt Q j * 2) else Vl.flat (Q.getD j rm0).l) := by
            by_cases e2 : j < k
            · rw [if_pos e2, if_pos (by omega)]
            · rw [if_neg e2, if_neg (by omega)]
          rw [hif]
          exact q.of_block (kp1.block _ q.lt fun ⟨q1, q2⟩ => HDk.out j hj e h0 q1 q2)
      case measure => simp [intOf]; omega
    · have he : k = n := by omega
      subst he
      go_wp2
      go_ret
      have hn2 := HN.out
      refine ⟨rfl, hkp, ⟨by rw [← hn2]; exact hh, fun i hi => ?_, fun i hi h0 => ?_, by omega, by rw [← hn2]; exact HSz.out⟩⟩
      · exact (World.cell?_of_block (hkp.block b (World.block_lt_of_cell? _ _ (hc0 i (by omega))) (HF.out.resolve_left (by omega)))).trans (hc0 i (by omega))
      · have q := HW.out i (by omega) h0
        rw [if_pos (by omega)] at q
        exact ⟨(HE.out i (by omega) h0).1, q⟩

set_option maxHeartbeats 2000000 in
theorem heldT_any (k0 : Nat) (h0 : 0 < k0) (a : Option Addr) (b cap : Nat) (Q : List Rm) (w : World) (h : MkQ w k0 a b Q) (h1 : k0 + cnt Q Q.length * 2 ≤ 100000000000) :
    Calls Tryz.prog 124 #[.slice a Q.length cap, .int .i64 k0] w fun e w' => e = .returned (.int .i64 ((k0 + cnt Q Q.length * 2 : Nat) : Int)) ∧ Below w.heap.size w w' := by
  obtain ⟨hh, hc, hm, hs, hz⟩ := h
  have HK : Hid (∀ i, i ≤ Q.length → k0 + cnt Q i * 2 ≤ 100000000000) := fun i hi => by have := cnt_mono Q hi; omega
  have HC : Hid (∀ i, cnt Q (i + 1) = cnt Q i + (Q.getD i rm0).l.length) := fun i => rfl
  have H2 : Hid (∀ i, 0 < k0 + cnt Q i * 2) := fun i => by omega
  have HM : Hid (∀ i, i < Q.length → (Q.getD i rm0).l.length ≠ 0 → (Q.getD i rm0).a = some ⟨(Q.getD i rm0).b, 0, none⟩ ∧ WtV w (Q.getD i rm0).b ((Q.getD i rm0).l.length * 2) (mkF (k0 + cnt Q i * 2))) := hm
  have HZ : Hid (∀ i, i < Q.length → (Q.getD i rm0).l.length ≤ 4194304) := hz
  clear hm hz h1
  obtain ⟨n, hn⟩ : ∃ n, n = Q.length := ⟨_, rfl⟩
  rw [← hn] at hh hc hs HK HM HZ ⊢
  clear hn
  go_enter Tryz.func124, Tryz.ntmps124
  go_wp2
  go_loopw [1, 5] (fun q i wr => ∃ k : Nat, k ≤ n ∧ i = .int .i64 k ∧ q = .int .i64 ((k0 + cnt Q k * 2 : Nat) : Int) ∧ Below w.heap.size w wr) (fun _ i _ => n - (intOf i).toNat)
  case atStart => exact ⟨0, Nat.zero_le _, rfl, by simp [cnt], Below.refl _ _⟩
  case round =>
    obtain ⟨k, hk, rfl, rfl, hbel⟩ := hrel
    by_cases hlt : k < n
    · obtain rfl := hh (by omega)
      have hkz : (k : Int) < (n : Int) := by omega
      have c0 := (hbel.cell (World.block_lt_of_cell? _ _ (hc k hlt))).trans (hc k hlt)
      have m0 := HM.out k hlt
      have sz := HZ.out k hlt
      have hC := HC.out k
      generalize Q.getD k rm0 = x at c0 m0 sz hC
      obtain ⟨xa, xb, xo, xc, xl⟩ := x
      simp only [Rm.val] at c0 m0 sz hC
      obtain ⟨K, hK⟩ : ∃ K : Nat, K = k0 + cnt Q k * 2 := ⟨_, rfl⟩
      rw [← hK] at m0
      have hM := heldV_any K (by rw [hK]; exact H2.out k) (by rw [hK]; exact HK.out k (by omega)) xa xb xc xl.length wr sz (fun h0 => ⟨(m0 h0).1, (m0 h0).2.of_block (hbel.block _ (m0 h0).2.lt)⟩)
      rw [← hK]
      have HKe : Hid (K = k0 + cnt Q k * 2) := hK
      have HCe : Hid (cnt Q (k + 1) = cnt Q k + xl.length) := hC
      have hneg : ¬ (((K + xl.length * 2 : Nat) : Int) < 0) := by omega
      clear hK hC m0
      go_wp2_with (go_at_call 152; refine hM.mono ?_; rintro e w1 ⟨rfl, hb⟩)
      go_roundw
      case rel => exact ⟨k + 1, by omega, by go_num, by rw [HCe.out, HKe.out]; congr 2; omega, Rw.next hbel hb⟩
      case measure => simp [intOf]; omega
    · have he : k = n := by omega
      subst he
      go_wp2
      go_ret
      exact ⟨rfl, hbel⟩

end Go.Proofs.YtkpchlojapkimaaGreat.Rl

namespace Go.Proofs.YtkpchlojapkimaaGreat.Rl
set_option maxRecDepth 8000
set_option linter.unusedSimpArgs false
set_option linter.unusedVariables false
open Go Go.RowKit
open Num Word Pl Rp

theorem cnt_said {Q P : List Rm} (h : said Q = said P) : ∀ i, cnt Q i = cnt P i
  | 0 => rfl
  | i + 1 => by
    simp only [cnt, cnt_said h i]
    have hl : Q.length = P.length := by rw [← said_len, ← said_len, h]
    by_cases hi : i < Q.length
    · rw [← said_at hi, ← said_at (by omega), h]
    · have e1 : Q.getD i rm0 = rm0 := by simp [List.getD, List.getElem?_eq_none (Nat.le_of_not_lt hi)]
      have e2 : P.getD i rm0 = rm0 := by simp [List.getD, List.getElem?_eq_none (by omega : P.length ≤ i)]
      rw [e1, e2]
theorem cnt_raw {Q : List Rm} {S : List Raw} (h : said Q = S.map Raw.l) (hl : Q.length = S.length) : ∀ i, i ≤ Q.length → cnt Q i ≤ totR S i
  | 0, _ => Nat.le_refl _
  | i + 1, hi => by
    have := cnt_raw h hl i (by omega)
    have e : (Q.getD i rm0).l = (S.getD i raw0).l := by
      rw [← said_at (by omega), h]; simp [List.getD, show i < S.length by omega]
    simp only [cnt, totR]
    rw [e]; omega
theorem cnt_few {F : List Rm} (h : ∀ r ∈ F, r.l.length ≤ 6) : ∀ i, i ≤ F.length → cnt F i ≤ i * 6
  | 0, _ => Nat.le_refl _
  | i + 1, hi => by
    have := cnt_few h i (by omega)
    have := h _ (getD_mem (by omega : i < F.length))
    simp only [cnt]; omega
theorem small_said {F : List Rm} {X : List RowL} (h : said F = X) (hX : X.length ≤ 300 ∧ ∀ l ∈ X, l.length ≤ 6) : F.length ≤ 300 ∧ cnt F F.length ≤ 1800 := by
  have hl : F.length ≤ 300 := by have := congrArg List.length h; rw [said_len] at this; omega
  have := cnt_few (F := F) (fun r hr => hX.2 _ (by rw [← h]; exact List.mem_map_of_mem hr)) F.length (Nat.le_refl _)
  exact ⟨hl, by omega⟩

end Go.Proofs.YtkpchlojapkimaaGreat.Rl

namespace Go.Proofs.YtkpchlojapkimaaGreat.St
set_option maxRecDepth 8000
set_option linter.unusedSimpArgs false
set_option linter.unusedVariables false
open Go Go.ChangeShapes Go.WideShapes Go.RowKit
open Num Word Pl Rp
open Rl (Rm rm0 said Kp UseQ MkQ cnt mt)

def WtN (w : World) (b n : Nat) (f : Nat → Value) : Prop := ∃ cs : Array Value, w.heap[b]? = some (.cells cs 69 (0, 0)) ∧ ∀ j, j < n → cs[j]? = some (f j)
theorem WtN.cell {w : World} {b n : Nat} {f : Nat → Value} (h : WtN w b n f) {i : Nat} (hi : i < n) : w.cell? ⟨b, i, none⟩ = some (f i) := by
  obtain ⟨c, hb, hc⟩ := h
  simp [World.cell?, hb, hc i hi]
theorem WtN.frozen {w : World} {b n : Nat} {f : Nat → Value} (h : WtN w b n f) (i : Nat) : w.frozen? ⟨b, i, none⟩ = false := by
  obtain ⟨c, hb, _⟩ := h
  simp [World.frozen?, hb]
theorem WtN.lt {w : World} {b n : Nat} {f : Nat → Value} (h : WtN w b n f) : b < w.heap.size := by
  obtain ⟨c, hb, _⟩ := h
  exact blk_lt hb
theorem WtN.congr {w : World} {b n : Nat} {f g : Nat → Value} (h : WtN w b n f) (e : ∀ i, i < n → f i = g i) : WtN w b n g := by
  obtain ⟨c, hb, hc⟩ := h
  exact ⟨c, hb, fun i hi => by rw [hc i hi, e i hi]⟩
theorem WtN.of_block {w w' : World} {b n : Nat} {f : Nat → Value} (h : WtN w b n f) (e : w'.heap[b]? = w.heap[b]?) : WtN w' b n f := by
  obtain ⟨c, hb, hc⟩ := h
  exact ⟨c, e.trans hb, hc⟩
theorem WtN.set {w : World} {b n : Nat} {f : Nat → Value} (h : WtN w b n f) (i : Nat) (v : Value) : WtN (w.setCell ⟨b, i, none⟩ v) b n (fun j => if j = i then v else f j) := by
  obtain ⟨c, hb, hc⟩ := h
  refine ⟨c.setIfInBounds i v, ?_, fun j hj => ?_⟩
  · simp [World.setCell, Array.getElem?_modify, hb]
  · rw [Array.getElem?_setIfInBounds]
    by_cases e : j = i
    · subst e
      have hj' : j < c.size := (Array.getElem?_eq_some_iff.1 (hc j hj)).1
      simp [hj']
    · rw [if_neg (fun h => e h.symm)]
      show c[j]? = some (if j = i then v else f j)
      rw [if_neg e]
      exact hc j hj

/-- The mark that the named relation i begins with. -/
def kN (T : List Nm) (k0 : Nat) : Nat → Nat
  | 0 => k0
  | i + 1 => kN T k0 i + 2 + cnt (T.getD i nm0).Q (T.getD i nm0).Q.length * 2
theorem kN_mono (T : List Nm) (k0 : Nat) {i j : Nat} (h : i ≤ j) : kN T k0 i ≤ kN T k0 j := by
  induction j with
  | zero => have : i = 0 := by omega
            subst this; exact Nat.le_refl _
  | succ j ih =>
    by_cases e : i = j + 1
    · subst e; exact Nat.le_refl _
    · have := ih (by omega)
      simp only [kN]; omega
theorem kN_ge (T : List Nm) (k0 i : Nat) : k0 ≤ kN T k0 i := kN_mono T k0 (Nat.zero_le i)
def mkN (T : List Nm) (k0 j : Nat) : Value := if j % 3 = 0 then .string (mt (kN T k0 (j / 3))) else if j % 3 = 1 then .int .i64 ((kN T k0 (j / 3) + 1 : Nat) : Int) else .slice (T.getD (j / 3) nm0).a (T.getD (j / 3) nm0).Q.length (T.getD (j / 3) nm0).c
def mixN (T : List Nm) (k0 k j : Nat) : Value := if j < k * 3 then mkN T k0 j else flat3 T j
theorem mixN_step {w : World} {b n k0 k : Nat} {T : List Nm} (h : WtN w b n (mixN T k0 k)) :
    WtN ((w.setCell ⟨b, k * 3, none⟩ (.string (mt (kN T k0 k)))).setCell ⟨b, k * 3 + 1, none⟩ (.int .i64 ((kN T k0 k + 1 : Nat) : Int))) b n (mixN T k0 (k + 1)) := by
  refine ((h.set _ _).set _ _).congr fun j hj => ?_
  have a0 : k * 3 % 3 = 0 := by omega
  have a1 : (k * 3 + 1) % 3 = 1 := by omega
  have a2 : (k * 3 + 2) % 3 = 2 := by omega
  have d0 : k * 3 / 3 = k := by omega
  have d1 : (k * 3 + 1) / 3 = k := by omega
  have d2 : (k * 3 + 2) / 3 = k := by omega
  by_cases e1 : j = k * 3 + 1
  · subst e1
    rw [if_pos rfl]
    simp only [mixN, mkN, a1, d1]
    rw [if_pos (by omega)]; rfl
  · rw [if_neg e1]
    by_cases e0 : j = k * 3
    · subst e0
      rw [if_pos rfl]
      simp only [mixN, mkN, a0, d0]
      rw [if_pos (by omega)]; rfl
    · rw [if_neg e0]
      by_cases e2 : j = k * 3 + 2
      · subst e2
        unfold mixN
        rw [if_neg (by omega : ¬ k * 3 + 2 < k * 3), if_pos (by omega : k * 3 + 2 < (k + 1) * 3), flat32]
        unfold mkN
        rw [a2, d2]; rfl
      · simp only [mixN]
        by_cases e3 : j < k * 3
        · rw [if_pos e3, if_pos (by omega)]
        · rw [if_neg e3, if_neg (by omega)]

theorem kN_told {T U : List Nm} (h : told T = told U) (k0 : Nat) : ∀ i, kN T k0 i = kN U k0 i
  | 0 => rfl
  | i + 1 => by
    simp only [kN, kN_told h k0 i]
    have hl : T.length = U.length := by rw [← told_len, ← told_len, h]
    by_cases hi : i < T.length
    · have e : (T.getD i nm0).l = (U.getD i nm0).l := by rw [← told_at hi, ← told_at (by omega), h]
      have e2 : said (T.getD i nm0).Q = said (U.getD i nm0).Q := congrArg (fun x => x.2.2) e
      have e3 := Rl.cnt_said e2 (T.getD i nm0).Q.length
      have e4 : (T.getD i nm0).Q.length = (U.getD i nm0).Q.length := by rw [← Rl.said_len, ← Rl.said_len, e2]
      rw [e4] at e3 ⊢
      rw [e3]
    · have e1 : T.getD i nm0 = nm0 := by simp [List.getD, List.getElem?_eq_none (Nat.le_of_not_lt hi)]
      have e2 : U.getD i nm0 = nm0 := by simp [List.getD, List.getElem?_eq_none (by omega : U.length ≤ i)]
      rw [e1, e2]
theorem kN_raw {Q : List Nm} {T : List Raw} (hl : Q.length = T.length) (h : ∀ i, i < T.length → (Q.getD i nm0).Q.length = (T.getD i raw0).S.length ∧ said (Q.getD i nm0).Q = (T.getD i raw0).S.map Rl.Raw.l) : ∀ i, i ≤ Q.length → kN Q 1 i ≤ 1 + 2 * (i + totN T i)
  | 0, _ => by simp [kN]
  | i + 1, hi => by
    have ih := kN_raw hl h i (by omega)
    obtain ⟨e1, e2⟩ := h i (by omega)
    have := Rl.cnt_raw e2 e1 (Q.getD i nm0).Q.length (Nat.le_refl _)
    simp only [kN, totN, wt]
    rw [e1] at this ⊢
    omega

/-- The blocks that marks turn. -/
def UseN (T : List Nm) (b x : Nat) : Prop := (T.length ≠ 0 ∧ x = b) ∨ ∃ y ∈ T, UseQ y.Q x
structure MkN (w : World) (k0 : Nat) (a : Option Addr) (b : Nat) (T : List Nm) : Prop where
  head : 0 < T.length → a = some ⟨b, 0, none⟩
  row : T.length ≠ 0 → WtN w b (T.length * 3) (mkN T k0)
  each : ∀ i, i < T.length → MkQ w (kN T k0 i + 2) (T.getD i nm0).a (T.getD i nm0).b (T.getD i nm0).Q
  size : T.length ≤ 4194304
theorem own_keepU {w w' : World} {lo hi : Nat} {a : Option Addr} {b : Nat} {Q : List Rm} (h : Rl.Own w lo hi a b Q) (hb : Q.length ≠ 0 → w'.heap[b]? = w.heap[b]?) (hr : ∀ x, UseQ Q x → w'.heap[x]? = w.heap[x]?) : Rl.Own w' lo hi a b Q := by
  refine ⟨h.rd.keep ?_ ?_, ?_, fun r hr' h0 => ?_, h.diff⟩
  · by_cases h0 : Q.length = 0
    · exact .inl h0
    · exact .inr (hb h0)
  · intro r hr'
    by_cases h0 : r.l.length = 0
    · exact .inl h0
    · exact .inr (hr _ ⟨r, hr', h0, rfl⟩)
  · by_cases h0 : Q.length = 0
    · exact .inl h0
    · obtain ⟨h1, cs, h2⟩ := h.blk.resolve_left h0
      exact .inr ⟨h1, cs, (hb h0).trans h2⟩
  · obtain ⟨e, h1, h3, h2⟩ := h.each r hr' h0
    exact ⟨e, h1, h3, h2.of_block (hr _ ⟨r, hr', h0, rfl⟩)⟩
theorem mkq_keepU {w w' : World} {k0 : Nat} {a : Option Addr} {b : Nat} {Q : List Rm} (h : MkQ w k0 a b Q) (hb : Q.length ≠ 0 → w'.heap[b]? = w.heap[b]?) (hr : ∀ x, UseQ Q x → w'.heap[x]? = w.heap[x]?) : MkQ w' k0 a b Q :=
  ⟨h.head, fun i hi => (World.cell?_of_block (hb (by omega))).trans (h.cell i hi), fun i hi h0 => by obtain ⟨h1, h2⟩ := h.mark i hi h0; exact ⟨h1, h2.of_block (hr _ ⟨_, Rl.getD_mem hi, h0, rfl⟩)⟩, h.size, h.sizes⟩
theorem MkN.below {w w' : World} {k0 : Nat} {a : Option Addr} {b : Nat} {T : List Nm} (h : MkN w k0 a b T) (hb : Below w.heap.size w w') : MkN w' k0 a b T :=
  ⟨h.head, fun h0 => (h.row h0).of_block (hb.block _ (h.row h0).lt), fun i hi => (h.each i hi).below hb, h.size⟩

theorem mem_getD {Q : List Rm} {r : Rm} (h : r ∈ Q) : ∃ i, i < Q.length ∧ Q.getD i rm0 = r := by
  obtain ⟨i, hi, e⟩ := List.getElem_of_mem h
  exact ⟨i, hi, by simpa [List.getD, hi] using e⟩
/-- What the blocks of a store of the call's own have to do with one another. -/
structure Apart (T : List Nm) (b : Nat) : Prop where
  rows : ∀ i j, i < T.length → j < T.length → i ≠ j → ∀ x, UseQ (T.getD i nm0).Q x → ¬ UseQ (T.getD j nm0).Q x
  list : ∀ i j, i < T.length → j < T.length → (T.getD i nm0).Q.length ≠ 0 → ¬ UseQ (T.getD j nm0).Q (T.getD i nm0).b
  top : ∀ i, i < T.length → ¬ UseQ (T.getD i nm0).Q b ∧ ((T.getD i nm0).Q.length ≠ 0 → (T.getD i nm0).b ≠ b)
theorem own_apart {w : World} {lo hi : Nat} {a : Option Addr} {b : Nat} {T : List Nm} (h : Own w lo hi a b T) : Apart T b := by
  have hE := fun i (hi : i < T.length) => (h.each _ (mem_at hi)).2
  have hU : ∀ i, i < T.length → ∀ x, UseQ (T.getD i nm0).Q x → ∃ cs, w.heap[x]? = some (.cells cs 171 (0, 0)) := fun i hi x ⟨r, hr, h0, e⟩ => by
    obtain ⟨_, _, _, cs, h2, _⟩ := (hE i hi).each r hr h0
    exact ⟨cs, e ▸ h2⟩
  have hL : ∀ i, i < T.length → (T.getD i nm0).Q.length ≠ 0 → ∃ cs, w.heap[(T.getD i nm0).b]? = some (.cells cs 107 (0, 0)) := fun i hi h0 => ((hE i hi).blk.resolve_left h0).2
  have hT : T.length ≠ 0 → ∃ cs, w.heap[b]? = some (.cells cs 69 (0, 0)) := fun h0 => (h.blk.resolve_left h0).2
  have pa : ∀ i j, (hi : i < T.length) → (hj : j < T.length) → i < j → ∀ r ∈ (T.getD i nm0).Q, ∀ q ∈ (T.getD j nm0).Q, r.l.length ≠ 0 → q.l.length ≠ 0 → r.b ≠ q.b := fun i j hi hj hij => by
    have := List.pairwise_iff_getElem.1 h.diff i j hi hj hij
    simpa [List.getD, hi, hj] using this
  refine ⟨fun i j hi hj hij x ⟨r, hr, h0, e⟩ ⟨q, hq, h0', e'⟩ => ?_, fun i j hi hj h0 hu => ?_, fun i hi => ⟨fun hu => ?_, fun h0 e => ?_⟩⟩
  · rcases Nat.lt_or_ge i j with c | c
    · exact pa i j hi hj c r hr q hq h0 h0' (e.symm.trans e')
    · exact pa j i hj hi (by omega) q hq r hr h0' h0 (e'.symm.trans e)
  · obtain ⟨c1, q1⟩ := hU j hj _ hu
    obtain ⟨c2, q2⟩ := hL i hi h0
    rw [q1] at q2; simp at q2
  · obtain ⟨c1, q1⟩ := hU i hi _ hu
    obtain ⟨c2, q2⟩ := hT (by omega)
    rw [q1] at q2; simp at q2
  · obtain ⟨c1, q1⟩ := hL i hi h0
    obtain ⟨c2, q2⟩ := hT (by omega)
    rw [e, q2] at q1; simp at q1
theorem own_use {w : World} {lo hi : Nat} {a : Option Addr} {b : Nat} {T : List Nm} (h : Own w lo hi a b T) (hb : b < hi) {x : Nat} (hu : UseN T b x) : lo ≤ x ∧ x < hi := by
  rcases hu with ⟨h0, rfl⟩ | ⟨y, hy, r, hr, h0, rfl⟩
  · exact ⟨(h.blk.resolve_left h0).1, hb⟩
  · obtain ⟨_, h1, h2, _⟩ := (h.each y hy).2.each r hr h0
    exact ⟨h1, h2⟩

theorem own_use' {w : World} {lo hi : Nat} {a : Option Addr} {b : Nat} {T : List Nm} (h : Own w lo hi a b T) (hb : T.length ≠ 0 → b < hi) {x : Nat} (hu : UseN T b x) : lo ≤ x ∧ x < hi := by
  rcases hu with ⟨h0, rfl⟩ | ⟨y, hy, r, hr, h0, rfl⟩
  · exact ⟨(h.blk.resolve_left h0).1, hb h0⟩
  · obtain ⟨_, h1, h2, _⟩ := (h.each y hy).2.each r hr h0
    exact ⟨h1, h2⟩

set_option maxHeartbeats 4000000 in
theorem markNs_any (k0 : Nat) (h0 : 0 < k0) (a : Option Addr) (b cap lo hi : Nat) (T : List Nm) (w : World) (h : Own w lo hi a b T) (h1 : kN T k0 T.length ≤ 10000000000) :
    Calls Tryz.prog 71 #[.slice a T.length cap, .int .i64 k0] w fun e w' => e = .returned (.int .i64 ((kN T k0 T.length : Nat) : Int)) ∧ Kp (UseN T b) w w' ∧ MkN w' k0 a b T := by
  have HAp : Hid (Apart T b) := own_apart h
  have HW0 : Hid (T.length ≠ 0 → WtN w b (T.length * 3) (mixN T k0 0)) := fun hn => by
    obtain ⟨_, cs, hk⟩ := h.blk.resolve_left hn
    refine ⟨cs, hk, fun j hj => ?_⟩
    have hc := h.rd.cell (j / 3) (by omega)
    have e3 : j = j / 3 * 3 ∨ j = j / 3 * 3 + 1 ∨ j = j / 3 * 3 + 2 := by omega
    have cell : ∀ i, w.cell? ⟨b, i, none⟩ = cs[i]? := fun i => by simp [World.cell?, hk]
    have em : mixN T k0 0 j = flat3 T j := by simp [mixN]
    rw [em]
    obtain ⟨q0, q1, q2⟩ := hc
    rw [Nat.zero_add, cell] at q0 q1 q2
    rcases e3 with e | e | e
    · rw [e, flat30]; exact q0
    · rw [e, flat31]; exact q1
    · rw [e, flat32]; exact q2
  have HE : Hid (∀ i, i < T.length → Rl.Own w lo hi (T.getD i nm0).a (T.getD i nm0).b (T.getD i nm0).Q) := fun i hi => (h.each _ (mem_at hi)).2
  have hh := h.rd.head
  have hs := h.rd.size
  have HK : Hid (∀ i, i ≤ T.length → kN T k0 i ≤ 10000000000) := fun i hi => Nat.le_trans (kN_mono T k0 hi) h1
  have HU : Hid (∀ i, i < T.length → ∀ x, UseQ (T.getD i nm0).Q x → UseN T b x) := fun i hi x hx => .inr ⟨_, mem_at hi, hx⟩
  have HUb : Hid (T.length ≠ 0 → UseN T b b) := fun h => .inl ⟨h, rfl⟩
  clear h h1
  obtain ⟨n, hn⟩ : ∃ n, n = T.length := ⟨_, rfl⟩
  have HAp' : Hid ((∀ i j, i < n → j < n → i ≠ j → ∀ x, UseQ (T.getD i nm0).Q x → ¬ UseQ (T.getD j nm0).Q x) ∧ (∀ i j, i < n → j < n → (T.getD i nm0).Q.length ≠ 0 → ¬ UseQ (T.getD j nm0).Q (T.getD i nm0).b) ∧ ∀ i, i < n → ¬ UseQ (T.getD i nm0).Q b ∧ ((T.getD i nm0).Q.length ≠ 0 → (T.getD i nm0).b ≠ b)) := by
    subst hn; exact ⟨HAp.out.rows, HAp.out.list, HAp.out.top⟩
  rw [← hn] at hh hs HW0 HE HK HU HUb ⊢
  have HN : Hid (n = T.length) := hn
  clear hn HAp
  go_enter Tryz.func71, Tryz.ntmps71
  go_wp2
  go_loopw [1, 5] (fun q i wr => ∃ k : Nat, k ≤ n ∧ i = .int .i64 k ∧ q = .int .i64 ((kN T k0 k : Nat) : Int) ∧ Kp (UseN T b) w wr ∧ (n ≠ 0 → WtN wr b (n * 3) (mixN T k0 k)) ∧ (∀ j, j < n → j < k → MkQ wr (kN T k0 j + 2) (T.getD j nm0).a (T.getD j nm0).b (T.getD j nm0).Q) ∧ (∀ j, j < n → k ≤ j → Rl.Own wr lo hi (T.getD j nm0).a (T.getD j nm0).b (T.getD j nm0).Q)) (fun _ i _ => n - (intOf i).toNat)
  case atStart => exact ⟨0, Nat.zero_le _, rfl, rfl, Kp.refl _ _, HW0.out, fun j _ hj => by omega, fun j hj _ => HE.out j hj⟩
  case round =>
    obtain ⟨k, hk, rfl, rfl, hkp, hwt, hmk, how⟩ := hrel
    have HM : Hid (∀ j, j < n → j < k → MkQ wr (kN T k0 j + 2) (T.getD j nm0).a (T.getD j nm0).b (T.getD j nm0).Q) := hmk
    have HO : Hid (∀ j, j < n → k ≤ j → Rl.Own wr lo hi (T.getD j nm0).a (T.getD j nm0).b (T.getD j nm0).Q) := how
    clear hmk how
    by_cases hlt : k < n
    · obtain rfl := hh (by omega)
      have hkz : (k : Int) < (n : Int) := by omega
      have hwt1 := hwt (by omega)
      clear hwt
      have o1 := HO.out k hlt (Nat.le_refl _)
      have e2 : mixN T k0 k (k * 3 + 2) = .slice (T.getD k nm0).a (T.getD k nm0).Q.length (T.getD k nm0).c := by
        unfold mixN; rw [if_neg (by omega), flat32]
      have HKn : Hid (kN T k0 (k + 1) = kN T k0 k + 2 + cnt (T.getD k nm0).Q (T.getD k nm0).Q.length * 2) := rfl
      have hK0 := Nat.lt_of_lt_of_le h0 (kN_ge T k0 k)
      have hK1 := HK.out (k + 1) hlt
      rw [HKn.out] at hK1
      have HAk : Hid (∀ j, j < n → j ≠ k → (∀ x, UseQ (T.getD j nm0).Q x → ¬ UseQ (T.getD k nm0).Q x) ∧ ((T.getD j nm0).Q.length ≠ 0 → ¬ UseQ (T.getD k nm0).Q (T.getD j nm0).b)) := fun j hj hjk => ⟨HAp'.out.1 j k hj hlt hjk, HAp'.out.2.1 j k hj hlt⟩
      have HTk : Hid (¬ UseQ (T.getD k nm0).Q b ∧ ((T.getD k nm0).Q.length ≠ 0 → (T.getD k nm0).b ≠ b)) := HAp'.out.2.2 k hlt
      have HUk : Hid (∀ x, UseQ (T.getD k nm0).Q x → UseN T b x) := HU.out k hlt
      have HX : Hid (∀ j, j = k → T.getD j nm0 = T.getD k nm0) := fun j e => by rw [e]
      obtain ⟨K, hK⟩ : ∃ K : Nat, K = kN T k0 k := ⟨_, rfl⟩
      generalize T.getD k nm0 = x at o1 e2 HKn hK1 HAk HTk HUk HX
      obtain ⟨xs, xr, xa, xb, xo, xc, xQ⟩ := x
      simp only at o1 e2 HKn hK1 HAk HTk HUk HX
      have c2 : wr.cell? ⟨b, k * 3 + 2, none⟩ = some (.slice xa xQ.length xc) := (hwt1.cell (by omega)).trans (congrArg some e2)
      obtain ⟨u0, c0⟩ : ∃ u, wr.cell? ⟨b, k * 3, none⟩ = some u := ⟨_, hwt1.cell (by omega)⟩
      obtain ⟨u1, c1⟩ : ∃ u, wr.cell? ⟨b, k * 3 + 1, none⟩ = some u := ⟨_, hwt1.cell (by omega)⟩
      have f0 := hwt1.frozen (k * 3)
      have f1 := hwt1.frozen (k * 3 + 1)
      have lb := hwt1.lt
      rw [← hK] at hK0 hK1 HKn ⊢
      have HKe : Hid (K = kN T k0 k) := hK
      have HWt : Hid (WtN wr b (n * 3) (mixN T k0 k)) := hwt1
      have hTx := Rl.text_any K hK0 (by omega) wr
      have hMr := fun W o => Rl.markT_any (K + 2) (by omega) xa xb xc lo hi xQ W o (by omega)
      have eK : (((K + 2 : Nat)) : Int) = (K : Int) + 1 + 1 := by omega
      rw [eK] at hMr
      clear hK e2 hwt1 eK
      go_wp2_with (first
        | (go_at_call 122; refine hTx.mono ?_; rintro e w1 ⟨rfl, hb⟩; clear hTx; replace c0 := (hb.cell lb).trans c0; replace c1 := (hb.cell lb).trans c1; replace c2 := (hb.cell lb).trans c2; replace f0 := (hb.frozen (p := ⟨b, k * 3, none⟩) lb).trans f0; replace f1 := (hb.frozen (p := ⟨b, k * 3 + 1, none⟩) lb).trans f1)
        | (go_at_call 123; refine (hMr _ (own_keepU (o1.below hb) (fun hq => ?_) (fun x hx => ?_))).mono ?_))
      · rw [Below.heap_setCell _ _ _ _ (by simpa using HTk.out.2 hq), Below.heap_setCell _ _ _ _ (by simpa using HTk.out.2 hq)]
      · have hne : x ≠ b := fun e => HTk.out.1 (e ▸ hx)
        rw [Below.heap_setCell _ _ _ _ (by simpa using hne), Below.heap_setCell _ _ _ _ (by simpa using hne)]
      · rintro e w2 ⟨rfl, kp, mk⟩
        go_wp2
        go_roundw
        case rel =>
          have hset : ∀ x, x ≠ b → ((w1.setCell ⟨b, k * 3, none⟩ (.string (mt K))).setCell ⟨b, k * 3 + 1, none⟩ (.int .i64 ((K : Int) + 1))).heap[x]? = w1.heap[x]? := fun x hx => by
            rw [Below.heap_setCell _ _ _ _ (by simpa using hx), Below.heap_setCell _ _ _ _ (by simpa using hx)]
          have hall : ∀ x, x < wr.heap.size → x ≠ b → ¬ UseQ xQ x → w2.heap[x]? = wr.heap[x]? := fun x hx hb' hu => by
            have s1 := hb.size
            rw [kp.block x (by simp; omega) hu, hset x hb', hb.block x hx]
          have hKe := HKe.out
          refine ⟨k + 1, by omega, by go_num, ?_, ?_, fun _ => ?_, fun j hj hjk => ?_, fun j hj hjk => ?_⟩
          · rw [HKn.out]; congr 1
          · exact ((hkp.next hb).set (a := ⟨b, k * 3, none⟩) (HUb.out (by omega))).set (a := ⟨b, k * 3 + 1, none⟩) (HUb.out (by omega)) |>.trans (kp.imp HUk.out)
          · have q := mixN_step (HWt.out.of_block (hb.block _ lb))
            rw [← hKe] at q
            have ee : (((K + 1 : Nat)) : Int) = (K : Int) + 1 := by omega
            rw [ee] at q
            exact q.of_block (kp.block _ q.lt HTk.out.1)
          · by_cases e : j = k
            · have ex := HX.out j e
              rw [ex, e, ← hKe]
              exact mk
            · have q := HM.out j hj (by omega)
              obtain ⟨q1, q2⟩ := HAk.out j hj e
              obtain ⟨q3, q4⟩ := HAp'.out.2.2 j hj
              have lj : ∀ x, UseQ (T.getD j nm0).Q x → x < wr.heap.size := fun x ⟨r, hr, h0, ex⟩ => by
                obtain ⟨i, hi, er⟩ := mem_getD hr
                have := (q.mark i hi (by rw [er]; exact h0)).2.lt
                rw [er] at this
                rw [ex]; exact this
              exact mkq_keepU q (fun h0 => hall _ (World.block_lt_of_cell? _ _ (q.cell 0 (by omega))) (q4 h0) (q2 h0)) (fun x hx => hall x (lj x hx) (fun e => q3 (e ▸ hx)) (q1 x hx))
          · have q := HO.out j hj (by omega)
            obtain ⟨q1, q2⟩ := HAk.out j hj (by omega)
            obtain ⟨q3, q4⟩ := HAp'.out.2.2 j hj
            exact own_keepU q (fun h0 => hall _ (blk_lt (q.blk.resolve_left h0).2.choose_spec) (q4 h0) (q2 h0)) (fun x hx => hall x (by obtain ⟨r, hr, h0, ex⟩ := hx; rw [ex]; exact (q.each r hr h0).2.2.2.lt) (fun e => q3 (e ▸ hx)) (q1 x hx))
        case measure => simp [intOf]; omega
    · have he : k = n := by omega
      subst he
      go_wp2
      go_ret
      have hn2 := HN.out
      refine ⟨rfl, hkp, ⟨by rw [← hn2]; exact hh, fun hne => ?_, fun i hi => HM.out i (by omega) (by omega), by omega⟩⟩
      rw [← hn2]
      refine (hwt (by omega)).congr fun j hj => ?_
      unfold mixN; rw [if_pos hj]

theorem markSt_any (k0 : Nat) (h0 : 0 < k0) (a : Option Addr) (b cap lo hi : Nat) (T : List Nm) (w : World) (h : Own w lo hi a b T) (h1 : kN T k0 T.length ≤ 10000000000) :
    Calls Tryz.prog 26 #[.agg #[.slice a T.length cap], .int .i64 k0] w fun e w' => e = .returned (.int .i64 ((kN T k0 T.length : Nat) : Int)) ∧ Kp (UseN T b) w w' ∧ MkN w' k0 a b T := by
  have B := below_alloc1 w (.cells #[.slice a T.length cap] 25)
  have hM := markNs_any k0 h0 a b cap lo hi T _ (h.below B) h1
  have HB : Hid (Kp (UseN T b) w (w.alloc (.cells #[.slice a T.length cap] 25))) := (Kp.refl _ _).next B
  generalize kN T k0 T.length = K at hM ⊢
  go_enter Tryz.func26, Tryz.ntmps26
  go_wp2_with (go_at_call 71; refine hM.mono ?_; rintro e w1 ⟨rfl, kp, mk⟩)
  go_ret
  exact ⟨rfl, HB.out.trans kp, mk⟩

end Go.Proofs.YtkpchlojapkimaaGreat.St

namespace Go.Proofs.YtkpchlojapkimaaGreat.Ch
set_option maxRecDepth 8000
set_option linter.unusedSimpArgs false
set_option linter.unusedVariables false
open Go Go.ChangeShapes Go.WideShapes Go.RowKit
open Num Word Pl Rp
open Rl (Rm rm0 said Kp UseQ MkQ cnt mt)
open St (own_keepU mkq_keepU mem_getD)

def WtC (w : World) (b n : Nat) (f : Nat → Value) : Prop := ∃ cs : Array Value, w.heap[b]? = some (.cells cs 71 (0, 0)) ∧ ∀ j, j < n → cs[j]? = some (f j)
theorem WtC.cell {w : World} {b n : Nat} {f : Nat → Value} (h : WtC w b n f) {i : Nat} (hi : i < n) : w.cell? ⟨b, i, none⟩ = some (f i) := by
  obtain ⟨c, hb, hc⟩ := h
  simp [World.cell?, hb, hc i hi]
theorem WtC.frozen {w : World} {b n : Nat} {f : Nat → Value} (h : WtC w b n f) (i : Nat) : w.frozen? ⟨b, i, none⟩ = false := by
  obtain ⟨c, hb, _⟩ := h
  simp [World.frozen?, hb]
theorem WtC.lt {w : World} {b n : Nat} {f : Nat → Value} (h : WtC w b n f) : b < w.heap.size := by
  obtain ⟨c, hb, _⟩ := h
  exact blk_lt hb
theorem WtC.congr {w : World} {b n : Nat} {f g : Nat → Value} (h : WtC w b n f) (e : ∀ i, i < n → f i = g i) : WtC w b n g := by
  obtain ⟨c, hb, hc⟩ := h
  exact ⟨c, hb, fun i hi => by rw [hc i hi, e i hi]⟩
theorem WtC.of_block {w w' : World} {b n : Nat} {f : Nat → Value} (h : WtC w b n f) (e : w'.heap[b]? = w.heap[b]?) : WtC w' b n f := by
  obtain ⟨c, hb, hc⟩ := h
  exact ⟨c, e.trans hb, hc⟩
theorem WtC.set {w : World} {b n : Nat} {f : Nat → Value} (h : WtC w b n f) (i : Nat) (v : Value) : WtC (w.setCell ⟨b, i, none⟩ v) b n (fun j => if j = i then v else f j) := by
  obtain ⟨c, hb, hc⟩ := h
  refine ⟨c.setIfInBounds i v, ?_, fun j hj => ?_⟩
  · simp [World.setCell, Array.getElem?_modify, hb]
  · rw [Array.getElem?_setIfInBounds]
    by_cases e : j = i
    · subst e
      have hj' : j < c.size := (Array.getElem?_eq_some_iff.1 (hc j hj)).1
      simp [hj']
    · rw [if_neg (fun h => e h.symm)]
      show c[j]? = some (if j = i then v else f j)
      rw [if_neg e]
      exact hc j hj


/-- How many marks the rows of a relation take. -/
def cn (x : Re) : Nat := cnt x.Q x.Q.length * 2
/-- The mark that change i begins with. -/
def kC (T : List Cm) (k0 : Nat) : Nat → Nat
  | 0 => k0
  | i + 1 => kC T k0 i + 3 + cn (T.getD i cm0).p + cn (T.getD i cm0).m
theorem kC_mono (T : List Cm) (k0 : Nat) {i j : Nat} (h : i ≤ j) : kC T k0 i ≤ kC T k0 j := by
  induction j with
  | zero => have : i = 0 := by omega
            subst this; exact Nat.le_refl _
  | succ j ih =>
    by_cases e : i = j + 1
    · subst e; exact Nat.le_refl _
    · have := ih (by omega)
      simp only [kC]; omega
theorem kC_ge (T : List Cm) (k0 i : Nat) : k0 ≤ kC T k0 i := kC_mono T k0 (Nat.zero_le i)
def mkC (T : List Cm) (k0 j : Nat) : Value := if j % 5 = 0 then .string (mt (kC T k0 (j / 5))) else if j % 5 = 1 then .int .i64 ((kC T k0 (j / 5) + 1 : Nat) : Int) else if j % 5 = 3 then .int .i64 ((kC T k0 (j / 5) + 2 + cn (T.getD (j / 5) cm0).p : Nat) : Int) else flat5 T j
def mixC (T : List Cm) (k0 k j : Nat) : Value := if j < k * 5 then mkC T k0 j else flat5 T j
theorem mixC_step {T : List Cm} {k0 k j : Nat} : (if j = k * 5 + 3 then Value.int .i64 ((kC T k0 k + 2 + cn (T.getD k cm0).p : Nat) : Int) else if j = k * 5 + 1 then .int .i64 ((kC T k0 k + 1 : Nat) : Int) else if j = k * 5 then .string (mt (kC T k0 k)) else mixC T k0 k j) = mixC T k0 (k + 1) j := by
  by_cases hj : j / 5 = k
  · have h5 : j % 5 < 5 := Nat.mod_lt _ (by omega)
    unfold mixC mkC
    rw [if_pos (by omega : j < (k + 1) * 5), hj, if_neg (by omega : ¬ j < k * 5)]
    by_cases e0 : j = k * 5
    · rw [if_neg (by omega), if_neg (by omega), if_pos e0, if_pos (by omega)]
    by_cases e1 : j = k * 5 + 1
    · rw [if_neg (by omega), if_pos e1, if_neg (by omega), if_pos (by omega)]
    by_cases e3 : j = k * 5 + 3
    · rw [if_pos e3, if_neg (by omega), if_neg (by omega), if_pos (by omega)]
    rw [if_neg e3, if_neg e1, if_neg e0, if_neg (by omega), if_neg (by omega), if_neg (by omega)]
  · rw [if_neg (by omega), if_neg (by omega), if_neg (by omega)]
    unfold mixC
    by_cases e3 : j < k * 5
    · rw [if_pos e3, if_pos (by omega)]
    · rw [if_neg e3, if_neg (by omega)]

theorem cn_said {x y : Re} (h : said x.Q = said y.Q) : cn x = cn y := by
  have e3 := Rl.cnt_said h x.Q.length
  have e4 : x.Q.length = y.Q.length := by rw [← Rl.said_len, ← Rl.said_len, h]
  unfold cn
  rw [e4] at e3 ⊢
  rw [e3]
theorem kC_told {T U : List Cm} (h : told T = told U) (k0 : Nat) : ∀ i, kC T k0 i = kC U k0 i
  | 0 => rfl
  | i + 1 => by
    simp only [kC, kC_told h k0 i]
    have hl : T.length = U.length := by rw [← told_len, ← told_len, h]
    by_cases hi : i < T.length
    · have e : (T.getD i cm0).l = (U.getD i cm0).l := by rw [← told_at hi, ← told_at (by omega), h]
      have e2 : said (T.getD i cm0).p.Q = said (U.getD i cm0).p.Q := congrArg (fun x => x.2.1.2) e
      have e3 : said (T.getD i cm0).m.Q = said (U.getD i cm0).m.Q := congrArg (fun x => x.2.2.2) e
      rw [cn_said e2, cn_said e3]
    · have e1 : T.getD i cm0 = cm0 := by simp [List.getD, List.getElem?_eq_none (Nat.le_of_not_lt hi)]
      have e2 : U.getD i cm0 = cm0 := by simp [List.getD, List.getElem?_eq_none (by omega : U.length ≤ i)]
      rw [e1, e2]
theorem kC_raw {Q : List Cm} {T : List Raw} (hl : Q.length = T.length) (h : ∀ i, i < T.length → ((Q.getD i cm0).p.Q.length = (T.getD i raw0).S.length ∧ said (Q.getD i cm0).p.Q = (T.getD i raw0).S.map Rl.Raw.l) ∧ ((Q.getD i cm0).m.Q.length = (T.getD i raw0).U.length ∧ said (Q.getD i cm0).m.Q = (T.getD i raw0).U.map Rl.Raw.l)) : ∀ i, i ≤ Q.length → kC Q 1 i ≤ 1 + 3 * (i + totC T i)
  | 0, _ => by simp [kC]
  | i + 1, hi => by
    have ih := kC_raw hl h i (by omega)
    obtain ⟨⟨e1, e2⟩, e3, e4⟩ := h i (by omega)
    have q1 := Rl.cnt_raw e2 e1 (Q.getD i cm0).p.Q.length (Nat.le_refl _)
    have q2 := Rl.cnt_raw e4 e3 (Q.getD i cm0).m.Q.length (Nat.le_refl _)
    simp only [kC, totC, wt, cn]
    rw [e1] at q1 ⊢
    rw [e3] at q2 ⊢
    omega

theorem rels_len (T : List Cm) : (rels T).length = 2 * T.length := by
  induction T with
  | nil => rfl
  | cons x T ih => simp only [rels, List.flatMap_cons, List.length_append, List.length_cons, List.length_nil] at ih ⊢; omega
theorem rels_at : ∀ (T : List Cm) (i : Nat), (rels T).getD (2 * i) re0 = (T.getD i cm0).p ∧ (rels T).getD (2 * i + 1) re0 = (T.getD i cm0).m
  | [], i => by simp [rels, List.getD, cm0]
  | x :: T, 0 => by simp [rels, List.getD]
  | x :: T, i + 1 => by
    have ih := rels_at T i
    have e : rels (x :: T) = x.p :: x.m :: rels T := by simp [rels]
    have e1 : 2 * (i + 1) = 2 * i + 1 + 1 := by omega
    have e2 : 2 * (i + 1) + 1 = 2 * i + 1 + 1 + 1 := by omega
    rw [e, e2, e1]
    simpa [List.getD] using ih
theorem rel_mem {L : List Re} {i : Nat} (hi : i < L.length) : L.getD i re0 ∈ L := by
  have e : L.getD i re0 = L[i] := by simp [List.getD, hi]
  rw [e]; exact List.getElem_mem hi

/-- The blocks that marks turn. -/
def UseC (T : List Cm) (b x : Nat) : Prop := (T.length ≠ 0 ∧ x = b) ∨ ∃ y ∈ rels T, UseQ y.Q x
/-- The mark that the rows of relation j begin with. -/
def kR (T : List Cm) (k0 j : Nat) : Nat := kC T k0 (j / 2) + (if j % 2 = 0 then 2 else 3 + cn (T.getD (j / 2) cm0).p)
theorem kR0 (T : List Cm) (k0 i : Nat) : kR T k0 (2 * i) = kC T k0 i + 2 := by
  have e1 : 2 * i / 2 = i := by omega
  have e2 : 2 * i % 2 = 0 := by omega
  unfold kR; rw [e1, e2]; rfl
theorem kR1 (T : List Cm) (k0 i : Nat) : kR T k0 (2 * i + 1) = kC T k0 i + (3 + cn (T.getD i cm0).p) := by
  have e1 : (2 * i + 1) / 2 = i := by omega
  have e2 : (2 * i + 1) % 2 = 1 := by omega
  unfold kR; rw [e1, e2]; rfl
structure MkC (w : World) (k0 : Nat) (a : Option Addr) (b : Nat) (T : List Cm) : Prop where
  head : 0 < T.length → a = some ⟨b, 0, none⟩
  row : T.length ≠ 0 → WtC w b (T.length * 5) (mkC T k0)
  each : ∀ j, j < (rels T).length → MkQ w (kR T k0 j) ((rels T).getD j re0).a ((rels T).getD j re0).b ((rels T).getD j re0).Q
  size : T.length ≤ 4194304
theorem MkC.below {w w' : World} {k0 : Nat} {a : Option Addr} {b : Nat} {T : List Cm} (h : MkC w k0 a b T) (hb : Below w.heap.size w w') : MkC w' k0 a b T :=
  ⟨h.head, fun h0 => (h.row h0).of_block (hb.block _ (h.row h0).lt), fun i hi => (h.each i hi).below hb, h.size⟩

/-- What the blocks of relations of the call's own have to do with one another. -/
structure Apart (L : List Re) (b : Nat) : Prop where
  rows : ∀ i j, i < L.length → j < L.length → i ≠ j → ∀ x, UseQ (L.getD i re0).Q x → ¬ UseQ (L.getD j re0).Q x
  list : ∀ i j, i < L.length → j < L.length → (L.getD i re0).Q.length ≠ 0 → ¬ UseQ (L.getD j re0).Q (L.getD i re0).b
  top : ∀ i, i < L.length → ¬ UseQ (L.getD i re0).Q b ∧ ((L.getD i re0).Q.length ≠ 0 → (L.getD i re0).b ≠ b)
theorem own_apart {w : World} {lo hi : Nat} {a : Option Addr} {b : Nat} {T : List Cm} (h : Own w lo hi a b T) : Apart (rels T) b := by
  have hE := fun i (hi : i < (rels T).length) => (h.each _ (rel_mem hi)).2
  have hU : ∀ i, i < (rels T).length → ∀ x, UseQ ((rels T).getD i re0).Q x → ∃ cs, w.heap[x]? = some (.cells cs 171 (0, 0)) := fun i hi x ⟨r, hr, h0, e⟩ => by
    obtain ⟨_, _, _, cs, h2, _⟩ := (hE i hi).each r hr h0
    exact ⟨cs, e ▸ h2⟩
  have hL : ∀ i, i < (rels T).length → ((rels T).getD i re0).Q.length ≠ 0 → ∃ cs, w.heap[((rels T).getD i re0).b]? = some (.cells cs 107 (0, 0)) := fun i hi h0 => ((hE i hi).blk.resolve_left h0).2
  have hT : T.length ≠ 0 → ∃ cs, w.heap[b]? = some (.cells cs 71 (0, 0)) := fun h0 => (h.blk.resolve_left h0).2
  have pa : ∀ i j, (hi : i < (rels T).length) → (hj : j < (rels T).length) → i < j → Far ((rels T).getD i re0) ((rels T).getD j re0) := fun i j hi hj hij => by
    have := List.pairwise_iff_getElem.1 h.diff i j hi hj hij
    simpa [List.getD, hi, hj] using this
  have hz : ∀ i, i < (rels T).length → T.length ≠ 0 := fun i hi => by rw [rels_len] at hi; omega
  refine ⟨fun i j hi hj hij x ⟨r, hr, h0, e⟩ ⟨q, hq, h0', e'⟩ => ?_, fun i j hi hj h0 hu => ?_, fun i hi => ⟨fun hu => ?_, fun h0 e => ?_⟩⟩
  · rcases Nat.lt_or_ge i j with c | c
    · exact pa i j hi hj c r hr q hq h0 h0' (e.symm.trans e')
    · exact pa j i hj hi (by omega) q hq r hr h0' h0 (e'.symm.trans e)
  · obtain ⟨c1, q1⟩ := hU j hj _ hu
    obtain ⟨c2, q2⟩ := hL i hi h0
    rw [q1] at q2; simp at q2
  · obtain ⟨c1, q1⟩ := hU i hi _ hu
    obtain ⟨c2, q2⟩ := hT (hz i hi)
    rw [q1] at q2; simp at q2
  · obtain ⟨c1, q1⟩ := hL i hi h0
    obtain ⟨c2, q2⟩ := hT (hz i hi)
    rw [e, q2] at q1; simp at q1
theorem own_use' {w : World} {lo hi : Nat} {a : Option Addr} {b : Nat} {T : List Cm} (h : Own w lo hi a b T) (hb : T.length ≠ 0 → b < hi) {x : Nat} (hu : UseC T b x) : lo ≤ x ∧ x < hi := by
  rcases hu with ⟨h0, rfl⟩ | ⟨y, hy, r, hr, h0, rfl⟩
  · exact ⟨(h.blk.resolve_left h0).1, hb h0⟩
  · obtain ⟨_, h1, h2, _⟩ := (h.each y hy).2.each r hr h0
    exact ⟨h1, h2⟩

/-- The relations ahead of q are marked, those from q on are as they were. -/
structure Half (L : List Re) (kk : Nat → Nat) (lo hi q : Nat) (w : World) : Prop where
  mark : ∀ j, j < L.length → j < q → MkQ w (kk j) (L.getD j re0).a (L.getD j re0).b (L.getD j re0).Q
  left : ∀ j, j < L.length → q ≤ j → Rl.Own w lo hi (L.getD j re0).a (L.getD j re0).b (L.getD j re0).Q
theorem mkq_lt {w : World} {k0 : Nat} {a : Option Addr} {b : Nat} {Q : List Rm} (h : MkQ w k0 a b Q) : (∀ x, UseQ Q x → x < w.heap.size) ∧ (Q.length ≠ 0 → b < w.heap.size) := by
  refine ⟨fun x ⟨r, hr, h0, ex⟩ => ?_, fun h0 => World.block_lt_of_cell? _ _ (h.cell 0 (by omega))⟩
  obtain ⟨i, hi, er⟩ := mem_getD hr
  have := (h.mark i hi (by rw [er]; exact h0)).2.lt
  rw [er] at this
  rw [ex]; exact this
theorem own_lt {w : World} {lo hi : Nat} {a : Option Addr} {b : Nat} {Q : List Rm} (h : Rl.Own w lo hi a b Q) : (∀ x, UseQ Q x → x < w.heap.size) ∧ (Q.length ≠ 0 → b < w.heap.size) := by
  refine ⟨fun x ⟨r, hr, h0, ex⟩ => ?_, fun h0 => blk_lt (h.blk.resolve_left h0).2.choose_spec⟩
  rw [ex]; exact (h.each r hr h0).2.2.2.lt
theorem Half.keep {L : List Re} {kk : Nat → Nat} {lo hi q b : Nat} {w w' : World} (h : Half L kk lo hi q w) (hA : Apart L b) (hk : ∀ x, x < w.heap.size → x ≠ b → w'.heap[x]? = w.heap[x]?) : Half L kk lo hi q w' := by
  refine ⟨fun j hj hjq => ?_, fun j hj hjq => ?_⟩
  · have m := h.mark j hj hjq
    obtain ⟨q1, q2⟩ := mkq_lt m
    exact mkq_keepU m (fun h0 => hk _ (q2 h0) ((hA.top j hj).2 h0)) (fun x hx => hk x (q1 x hx) (fun e => (hA.top j hj).1 (e ▸ hx)))
  · have m := h.left j hj hjq
    obtain ⟨q1, q2⟩ := own_lt m
    exact own_keepU m (fun h0 => hk _ (q2 h0) ((hA.top j hj).2 h0)) (fun x hx => hk x (q1 x hx) (fun e => (hA.top j hj).1 (e ▸ hx)))
theorem Half.step {L : List Re} {kk : Nat → Nat} {lo hi q b : Nat} {w w' : World} (h : Half L kk lo hi q w) (hA : Apart L b) (hq : q < L.length) (kp : Kp (UseQ (L.getD q re0).Q) w w') (mk : MkQ w' (kk q) (L.getD q re0).a (L.getD q re0).b (L.getD q re0).Q) : Half L kk lo hi (q + 1) w' := by
  refine ⟨fun j hj hjq => ?_, fun j hj hjq => ?_⟩
  · by_cases e : j = q
    · subst e; exact mk
    · have m := h.mark j hj (by omega)
      obtain ⟨q1, q2⟩ := mkq_lt m
      exact mkq_keepU m (fun h0 => kp.block _ (q2 h0) (hA.list j q hj hq h0)) (fun x hx => kp.block x (q1 x hx) (hA.rows j q hj hq e x hx))
  · have m := h.left j hj (by omega)
    obtain ⟨q1, q2⟩ := own_lt m
    exact own_keepU m (fun h0 => kp.block _ (q2 h0) (hA.list j q hj hq h0)) (fun x hx => kp.block x (q1 x hx) (hA.rows j q hj hq (by omega) x hx))

set_option maxHeartbeats 4000000 in
theorem markCs_any (k0 : Nat) (h0 : 0 < k0) (a : Option Addr) (b cap lo hi : Nat) (T : List Cm) (w : World) (h : Own w lo hi a b T) (h1 : kC T k0 T.length ≤ 10000000000) :
    Calls Tryz.prog 72 #[.slice a T.length cap, .int .i64 k0] w fun e w' => e = .returned (.int .i64 ((kC T k0 T.length : Nat) : Int)) ∧ Kp (UseC T b) w w' ∧ MkC w' k0 a b T := by
  have HAp : Hid (Apart (rels T) b) := own_apart h
  have HW0 : Hid (T.length ≠ 0 → WtC w b (T.length * 5) (mixC T k0 0)) := fun hn => by
    obtain ⟨_, cs, hk⟩ := h.blk.resolve_left hn
    refine ⟨cs, hk, fun j hj => ?_⟩
    have hc := h.rd.cell (j / 5) (by omega)
    have e3 : j = j / 5 * 5 ∨ j = j / 5 * 5 + 1 ∨ j = j / 5 * 5 + 2 ∨ j = j / 5 * 5 + 3 ∨ j = j / 5 * 5 + 4 := by omega
    have cell : ∀ i, w.cell? ⟨b, i, none⟩ = cs[i]? := fun i => by simp [World.cell?, hk]
    have em : mixC T k0 0 j = flat5 T j := by simp [mixC]
    rw [em]
    obtain ⟨q0, q1, q2, q3, q4⟩ := hc
    rw [Nat.zero_add, cell] at q0 q1 q2 q3 q4
    rcases e3 with e | e | e | e | e
    · rw [e, flat50]; exact q0
    · rw [e, flat51]; exact q1
    · rw [e, flat52]; exact q2
    · rw [e, flat53]; exact q3
    · rw [e, flat54]; exact q4
  have HE : Hid (Half (rels T) (kR T k0) lo hi 0 w) := ⟨fun j _ hj => by omega, fun j hj _ => (h.each _ (rel_mem hj)).2⟩
  have hh := h.rd.head
  have hs := h.rd.size
  have HK : Hid (∀ i, i ≤ T.length → kC T k0 i ≤ 10000000000) := fun i hi => Nat.le_trans (kC_mono T k0 hi) h1
  have HU : Hid (∀ i, i < (rels T).length → ∀ x, UseQ ((rels T).getD i re0).Q x → UseC T b x) := fun i hi x hx => .inr ⟨_, rel_mem hi, hx⟩
  have HUb : Hid (T.length ≠ 0 → UseC T b b) := fun h => .inl ⟨h, rfl⟩
  clear h h1
  obtain ⟨n, hn⟩ : ∃ n, n = T.length := ⟨_, rfl⟩
  rw [← hn] at hh hs HW0 HK HUb ⊢
  have HN : Hid (n = T.length) := hn
  clear hn
  go_enter Tryz.func72, Tryz.ntmps72
  go_wp2
  go_loopw [1, 5] (fun q i wr => ∃ k : Nat, k ≤ n ∧ i = .int .i64 k ∧ q = .int .i64 ((kC T k0 k : Nat) : Int) ∧ Kp (UseC T b) w wr ∧ (n ≠ 0 → WtC wr b (n * 5) (mixC T k0 k)) ∧ Half (rels T) (kR T k0) lo hi (2 * k) wr) (fun _ i _ => n - (intOf i).toNat)
  case atStart => exact ⟨0, Nat.zero_le _, rfl, rfl, Kp.refl _ _, HW0.out, HE.out⟩
  case round =>
    obtain ⟨k, hk, rfl, rfl, hkp, hwt, hM⟩ := hrel
    by_cases hlt : k < n
    · obtain rfl := hh (by omega)
      have hkz : (k : Int) < (n : Int) := by omega
      have hwt1 := hwt (by omega)
      clear hwt
      have hL : (rels T).length = 2 * n := by rw [rels_len, HN.out]
      have l1 : 2 * k < (rels T).length := by omega
      have l2 : 2 * k + 1 < (rels T).length := by omega
      have e2 : mixC T k0 k (k * 5 + 2) = .slice (T.getD k cm0).p.a (T.getD k cm0).p.Q.length (T.getD k cm0).p.c := by
        unfold mixC; rw [if_neg (by omega), flat52]
      have e4 : mixC T k0 k (k * 5 + 4) = .slice (T.getD k cm0).m.a (T.getD k cm0).m.Q.length (T.getD k cm0).m.c := by
        unfold mixC; rw [if_neg (by omega), flat54]
      have HKn : Hid (kC T k0 (k + 1) = kC T k0 k + 3 + cn (T.getD k cm0).p + cn (T.getD k cm0).m) := rfl
      have hK0 := Nat.lt_of_lt_of_le h0 (kC_ge T k0 k)
      have hK1 := HK.out (k + 1) hlt
      rw [HKn.out] at hK1
      have HT1 : Hid (¬ UseQ (T.getD k cm0).p.Q b) := by rw [← (rels_at T k).1]; exact (HAp.out.top _ l1).1
      have HT2 : Hid (¬ UseQ (T.getD k cm0).m.Q b) := by rw [← (rels_at T k).2]; exact (HAp.out.top _ l2).1
      have HU1 : Hid (∀ x, UseQ (T.getD k cm0).p.Q x → UseC T b x) := by rw [← (rels_at T k).1]; exact HU.out _ l1
      have HU2 : Hid (∀ x, UseQ (T.getD k cm0).m.Q x → UseC T b x) := by rw [← (rels_at T k).2]; exact HU.out _ l2
      have HO1 : Hid (∀ W, Half (rels T) (kR T k0) lo hi (2 * k) W → Rl.Own W lo hi (T.getD k cm0).p.a (T.getD k cm0).p.b (T.getD k cm0).p.Q) := fun W h => by rw [← (rels_at T k).1]; exact h.left _ l1 (Nat.le_refl _)
      have HO2 : Hid (∀ W, Half (rels T) (kR T k0) lo hi (2 * k + 1) W → Rl.Own W lo hi (T.getD k cm0).m.a (T.getD k cm0).m.b (T.getD k cm0).m.Q) := fun W h => by rw [← (rels_at T k).2]; exact h.left _ l2 (Nat.le_refl _)
      have HS1 : Hid (∀ W W', Half (rels T) (kR T k0) lo hi (2 * k) W → Kp (UseQ (T.getD k cm0).p.Q) W W' → MkQ W' (kC T k0 k + 2) (T.getD k cm0).p.a (T.getD k cm0).p.b (T.getD k cm0).p.Q → Half (rels T) (kR T k0) lo hi (2 * k + 1) W') := fun W W' h kp mk => by
        rw [← (rels_at T k).1] at kp mk
        rw [← kR0] at mk
        exact h.step HAp.out l1 kp mk
      have HS2 : Hid (∀ W W', Half (rels T) (kR T k0) lo hi (2 * k + 1) W → Kp (UseQ (T.getD k cm0).m.Q) W W' → MkQ W' (kC T k0 k + (3 + cn (T.getD k cm0).p)) (T.getD k cm0).m.a (T.getD k cm0).m.b (T.getD k cm0).m.Q → Half (rels T) (kR T k0) lo hi (2 * (k + 1)) W') := fun W W' h kp mk => by
        rw [← (rels_at T k).2] at kp mk
        rw [← kR1] at mk
        exact h.step HAp.out l2 kp mk
      have HMx : Hid (∀ j, (if j = k * 5 + 3 then Value.int .i64 ((kC T k0 k + 2 + cn (T.getD k cm0).p : Nat) : Int) else if j = k * 5 + 1 then .int .i64 ((kC T k0 k + 1 : Nat) : Int) else if j = k * 5 then .string (mt (kC T k0 k)) else mixC T k0 k j) = mixC T k0 (k + 1) j) := fun j => mixC_step
      obtain ⟨K, hK⟩ : ∃ K : Nat, K = kC T k0 k := ⟨_, rfl⟩
      clear hL l1 l2
      generalize T.getD k cm0 = x at e2 e4 HKn hK1 HT1 HT2 HU1 HU2 HO1 HO2 HS1 HS2 HMx
      obtain ⟨xs, ⟨xr, xa, xb, xo, xc, xQ⟩, ⟨yr, ya, yb, yo, yc, yQ⟩⟩ := x
      simp only [cn] at e2 e4 HKn hK1 HT1 HT2 HU1 HU2 HO1 HO2 HS1 HS2 HMx
      have c2 : wr.cell? ⟨b, k * 5 + 2, none⟩ = some (.slice xa xQ.length xc) := (hwt1.cell (by omega)).trans (congrArg some e2)
      have c4 : wr.cell? ⟨b, k * 5 + 4, none⟩ = some (.slice ya yQ.length yc) := (hwt1.cell (by omega)).trans (congrArg some e4)
      obtain ⟨u0, c0⟩ : ∃ u, wr.cell? ⟨b, k * 5, none⟩ = some u := ⟨_, hwt1.cell (by omega)⟩
      obtain ⟨u1, c1⟩ : ∃ u, wr.cell? ⟨b, k * 5 + 1, none⟩ = some u := ⟨_, hwt1.cell (by omega)⟩
      obtain ⟨u3, c3⟩ : ∃ u, wr.cell? ⟨b, k * 5 + 3, none⟩ = some u := ⟨_, hwt1.cell (by omega)⟩
      have HC4 : Hid (mixC T k0 k (k * 5 + 4) = .slice ya yQ.length yc) := e4
      have lb := hwt1.lt
      rw [← hK] at hK0 hK1 HKn HS1 HS2 HMx ⊢
      have HWt : Hid (WtC wr b (n * 5) (mixC T k0 k)) := hwt1
      have hTx := Rl.text_any K hK0 (by omega) wr
      obtain ⟨K3, hK3⟩ : ∃ K3 : Nat, K3 = K + 2 + cnt xQ xQ.length * 2 := ⟨_, rfl⟩
      have hMr := fun W o => Rl.markT_any (K + 2) (by omega) xa xb xc lo hi xQ W o (by omega)
      have hMs := fun W o => Rl.markT_any (K3 + 1) (by omega) ya yb yc lo hi yQ W o (by omega)
      have eK : (((K + 2 : Nat)) : Int) = (K : Int) + 1 + 1 := by omega
      have eK3 : (((K3 + 1 : Nat)) : Int) = (K3 : Int) + 1 := by omega
      rw [eK, ← hK3] at hMr
      rw [eK3] at hMs
      obtain ⟨K9, hK9⟩ : ∃ K9 : Nat, K9 = K3 + 1 + cnt yQ yQ.length * 2 := ⟨_, rfl⟩
      rw [← hK9] at hMs
      have HK3 : Hid (K3 = K + 2 + cnt xQ xQ.length * 2) := hK3
      have HK9 : Hid (K9 = kC T k0 (k + 1)) := by have := HKn.out; unfold Hid; omega
      have hr1 : K3 ≤ 10000000000 := by omega
      have hr2 : K9 ≤ 10000000000 := by omega
      have hr0 : K ≤ 10000000000 := by omega
      have HMs : Hid (∀ W' q, MkQ W' (K3 + 1) ya yb q → MkQ W' (K + (3 + cnt xQ xQ.length * 2)) ya yb q) := fun W' q h => by
        have e : K3 + 1 = K + (3 + cnt xQ xQ.length * 2) := by rw [HK3.out]; omega
        rw [← e]; exact h
      clear hK e2 e4 hwt1 eK eK3 hK3 hK9 hK1
      have fr : ∀ i, wr.frozen? ⟨b, i, none⟩ = false := fun i => HWt.out.frozen i
      have tok2 : True := trivial
      go_wp2_with (first
        | (go_at_call 122; refine hTx.mono ?_; rintro e w1 ⟨rfl, hb⟩; clear hTx; have f0 := (hb.frozen (p := ⟨b, k * 5, none⟩) lb).trans (fr _); have f1 := (hb.frozen (p := ⟨b, k * 5 + 1, none⟩) lb).trans (fr _); clear fr; replace c0 := (hb.cell lb).trans c0; replace c1 := (hb.cell lb).trans c1; replace c2 := (hb.cell lb).trans c2; have lb1 : b < w1.heap.size := Nat.lt_of_lt_of_le lb hb.size; have HW1 : Hid (WtC ((w1.setCell ⟨b, k * 5, none⟩ (.string (mt K))).setCell ⟨b, k * 5 + 1, none⟩ (.int .i64 ((K : Int) + 1))) b (n * 5) (fun j => if j = k * 5 + 1 then .int .i64 ((K : Int) + 1) else if j = k * 5 then .string (mt K) else mixC T k0 k j)) := ((HWt.out.of_block (hb.block _ lb)).set _ _).set _ _; have HM1 : Hid (Half (rels T) (kR T k0) lo hi (2 * k) ((w1.setCell ⟨b, k * 5, none⟩ (.string (mt K))).setCell ⟨b, k * 5 + 1, none⟩ (.int .i64 ((K : Int) + 1)))) := hM.keep HAp.out (fun x hx hxb => by rw [Below.heap_setCell _ _ _ _ (by simpa using hxb), Below.heap_setCell _ _ _ _ (by simpa using hxb), hb.block x hx]); have HP1 : Hid (Kp (UseC T b) w ((w1.setCell ⟨b, k * 5, none⟩ (.string (mt K))).setCell ⟨b, k * 5 + 1, none⟩ (.int .i64 ((K : Int) + 1)))) := ((hkp.next hb).set (a := ⟨b, k * 5, none⟩) (HUb.out (by omega))).set (a := ⟨b, k * 5 + 1, none⟩) (HUb.out (by omega)); clear hM hkp HWt c3 c4)
        | (go_at_call 123; clear tok2; refine (hMr _ (HO1.out _ HM1.out)).mono ?_; rintro e w2 ⟨rfl, kp, mk⟩; have HW2 : Hid (WtC w2 b (n * 5) (fun j => if j = k * 5 + 1 then .int .i64 ((K : Int) + 1) else if j = k * 5 then .string (mt K) else mixC T k0 k j)) := HW1.out.of_block (kp.block _ HW1.out.lt HT1.out); have f3 := HW2.out.frozen (k * 5 + 3); obtain ⟨u3, c3⟩ : ∃ u, w2.cell? ⟨b, k * 5 + 3, none⟩ = some u := ⟨_, HW2.out.cell (by omega)⟩; have c5 := HW2.out.cell (i := k * 5 + 4) (by omega); rw [if_neg (by omega), if_neg (by omega)] at c5; have c4 := c5.trans (congrArg some HC4.out); clear c5; have lb2 := HW2.out.lt; have HM2 : Hid (Half (rels T) (kR T k0) lo hi (2 * k + 1) (w2.setCell ⟨b, k * 5 + 3, none⟩ (.int .i64 (K3 : Int)))) := (HS1.out _ _ HM1.out kp mk).keep HAp.out (fun x hx hxb => by rw [Below.heap_setCell _ _ _ _ (by simpa using hxb)]); have HP2 : Hid (Kp (UseC T b) w (w2.setCell ⟨b, k * 5 + 3, none⟩ (.int .i64 (K3 : Int)))) := (HP1.out.trans (kp.imp HU1.out)).set (a := ⟨b, k * 5 + 3, none⟩) (HUb.out (by omega)); have HW3 : Hid (WtC (w2.setCell ⟨b, k * 5 + 3, none⟩ (.int .i64 (K3 : Int))) b (n * 5) (fun j => if j = k * 5 + 3 then .int .i64 (K3 : Int) else if j = k * 5 + 1 then .int .i64 ((K : Int) + 1) else if j = k * 5 then .string (mt K) else mixC T k0 k j)) := HW2.out.set _ _; clear HW1 HM1 HP1 HW2 kp mk; have tok3 : True := trivial)
        | (go_at_call 123; clear tok3; refine (hMs _ (HO2.out _ HM2.out)).mono ?_; rintro e w3 ⟨rfl, kp, mk⟩))
      go_roundw
      case rel =>
        refine ⟨k + 1, by omega, by go_num, by rw [HK9.out], HP2.out.trans (kp.imp HU2.out), fun _ => ?_, HS2.out _ _ HM2.out kp (HMs.out _ _ mk)⟩
        refine (HW3.out.of_block (kp.block _ HW3.out.lt HT2.out)).congr fun j _ => ?_
        rw [← HMx.out j]
        have q1 : (((K + 1 : Nat)) : Int) = (K : Int) + 1 := by omega
        rw [q1, ← HK3.out]
      case measure => simp [intOf]; omega
    · have he : k = n := by omega
      subst he
      go_wp2
      go_ret
      have hn2 := HN.out
      refine ⟨rfl, hkp, ⟨by rw [← hn2]; exact hh, fun hne => ?_, fun i hi => hM.mark i hi (by rw [rels_len] at hi; omega), by omega⟩⟩
      rw [← hn2]
      refine (hwt (by omega)).congr fun j hj => ?_
      unfold mixC; rw [if_pos hj]

theorem markDl_any (k0 : Nat) (h0 : 0 < k0) (a : Option Addr) (b cap lo hi : Nat) (T : List Cm) (w : World) (h : Own w lo hi a b T) (h1 : kC T k0 T.length ≤ 10000000000) :
    Calls Tryz.prog 27 #[.agg #[.slice a T.length cap], .int .i64 k0] w fun e w' => e = .returned (.int .i64 ((kC T k0 T.length : Nat) : Int)) ∧ Kp (UseC T b) w w' ∧ MkC w' k0 a b T := by
  have B := below_alloc1 w (.cells #[.slice a T.length cap] 30)
  have hM := markCs_any k0 h0 a b cap lo hi T _ (h.below B) h1
  have HB : Hid (Kp (UseC T b) w (w.alloc (.cells #[.slice a T.length cap] 30))) := (Kp.refl _ _).next B
  generalize kC T k0 T.length = K at hM ⊢
  go_enter Tryz.func27, Tryz.ntmps27
  go_wp2_with (go_at_call 72; refine hM.mono ?_; rintro e w1 ⟨rfl, kp, mk⟩)
  go_ret
  exact ⟨rfl, HB.out.trans kp, mk⟩

end Go.Proofs.YtkpchlojapkimaaGreat.Ch

namespace Go.Proofs.YtkpchlojapkimaaGreat.St
set_option maxRecDepth 8000
set_option linter.unusedSimpArgs false
set_option linter.unusedVariables false
open Go Go.ChangeShapes Go.WideShapes Go.RowKit
open Num Word Pl Rp
open Rl (Rm rm0 said Kp UseQ MkQ cnt mt)

theorem mkN0 (T : List Nm) (k0 i : Nat) : mkN T k0 (i * 3) = .string (mt (kN T k0 i)) := by
  have e1 : i * 3 % 3 = 0 := by omega
  have e2 : i * 3 / 3 = i := by omega
  unfold mkN; rw [e1, e2]; rfl
theorem mkN1 (T : List Nm) (k0 i : Nat) : mkN T k0 (i * 3 + 1) = .int .i64 ((kN T k0 i + 1 : Nat) : Int) := by
  have e1 : (i * 3 + 1) % 3 = 1 := by omega
  have e2 : (i * 3 + 1) / 3 = i := by omega
  unfold mkN; rw [e1, e2]; rfl
theorem mkN2 (T : List Nm) (k0 i : Nat) : mkN T k0 (i * 3 + 2) = .slice (T.getD i nm0).a (T.getD i nm0).Q.length (T.getD i nm0).c := by
  have e1 : (i * 3 + 2) % 3 = 2 := by omega
  have e2 : (i * 3 + 2) / 3 = i := by omega
  unfold mkN; rw [e1, e2]; rfl

set_option maxHeartbeats 4000000 in
theorem heldNs_any (k0 : Nat) (h0 : 0 < k0) (a : Option Addr) (b cap : Nat) (T : List Nm) (w : World) (h : MkN w k0 a b T) (h1 : kN T k0 T.length ≤ 10000000000) :
    Calls Tryz.prog 73 #[.slice a T.length cap, .int .i64 k0] w fun e w' => e = .returned (.int .i64 ((kN T k0 T.length : Nat) : Int)) ∧ Below w.heap.size w w' := by
  obtain ⟨hh, hr, he, hs⟩ := h
  have HK : Hid (∀ i, i ≤ T.length → kN T k0 i ≤ 10000000000) := fun i hi => Nat.le_trans (kN_mono T k0 hi) h1
  have HR : Hid (T.length ≠ 0 → WtN w b (T.length * 3) (mkN T k0)) := hr
  have HE : Hid (∀ i, i < T.length → MkQ w (kN T k0 i + 2) (T.getD i nm0).a (T.getD i nm0).b (T.getD i nm0).Q) := he
  clear hr he h1
  obtain ⟨n, hn⟩ : ∃ n, n = T.length := ⟨_, rfl⟩
  rw [← hn] at hh hs HK HR HE ⊢
  clear hn
  go_enter Tryz.func73, Tryz.ntmps73
  go_wp2
  go_loopw [1, 5] (fun q i wr => ∃ k : Nat, k ≤ n ∧ i = .int .i64 k ∧ q = .int .i64 ((kN T k0 k : Nat) : Int) ∧ Below w.heap.size w wr) (fun _ i _ => n - (intOf i).toNat)
  case atStart => exact ⟨0, Nat.zero_le _, rfl, rfl, Below.refl _ _⟩
  case round =>
    obtain ⟨k, hk, rfl, rfl, hbel⟩ := hrel
    by_cases hlt : k < n
    · obtain rfl := hh (by omega)
      have hkz : (k : Int) < (n : Int) := by omega
      have row := HR.out (by omega)
      have rowW := row.of_block (hbel.block _ row.lt)
      have c0 := (rowW.cell (i := k * 3) (by omega)).trans (congrArg some (mkN0 T k0 k))
      have c1 := (rowW.cell (i := k * 3 + 1) (by omega)).trans (congrArg some (mkN1 T k0 k))
      have c2 := (rowW.cell (i := k * 3 + 2) (by omega)).trans (congrArg some (mkN2 T k0 k))
      have mq := (HE.out k hlt).below hbel
      have HKn : Hid (kN T k0 (k + 1) = kN T k0 k + 2 + cnt (T.getD k nm0).Q (T.getD k nm0).Q.length * 2) := rfl
      have hK0 := Nat.lt_of_lt_of_le h0 (kN_ge T k0 k)
      have hK1 := HK.out (k + 1) hlt
      rw [HKn.out] at hK1
      have lb := rowW.lt
      generalize T.getD k nm0 = x at c2 mq HKn hK1
      obtain ⟨xs, xr, xa, xb, xo, xc, xQ⟩ := x
      simp only at c2 mq HKn hK1
      obtain ⟨K, hK⟩ : ∃ K : Nat, K = kN T k0 k := ⟨_, rfl⟩
      rw [← hK] at c0 c1 mq HKn hK0 hK1 ⊢
      have hTx := fun W => Rl.text_any K hK0 (by omega) W
      have hMr := fun W m => Rl.heldT_any (K + 2) (by omega) xa xb xc xQ W m (by omega)
      have e1 : (((K + 1 : Nat)) : Int) = (K : Int) + 1 := by omega
      have e2 : (((K + 2 : Nat)) : Int) = (K : Int) + 1 + 1 := by omega
      have e3 : (((K + 2 + cnt xQ xQ.length * 2 : Nat)) : Int) = ((kN T k0 (k + 1) : Nat) : Int) := by rw [HKn.out]
      rw [e1] at c1
      rw [e2] at hMr
      obtain ⟨K9, hK9⟩ : ∃ K9 : Nat, K9 = K + 2 + cnt xQ xQ.length * 2 := ⟨_, rfl⟩
      rw [← hK9] at hMr
      have HK9 : Hid (K9 = kN T k0 (k + 1)) := by rw [Hid, hK9, HKn.out]
      have hneg : ¬ ((K9 : Int) < 0) := by omega
      have hq1 : (((K : Int) + 1) != ((K : Int) + 1)) = false := by simp
      obtain ⟨S, hS⟩ : ∃ S, S = mt K := ⟨_, rfl⟩
      rw [← hS] at c0 hTx
      have hqs : (S.toList == S.toList) = true := by simp
      clear row rowW hK e1 e2 e3 hK9 hS
      go_wp2
      go_region_held3 (fun w' => w'.cell? ⟨b, k * 3, none⟩ = some (.string S)) (go_keep) (first
        | (go_at_call 122; refine (hTx _).mono ?_; rintro e w1 ⟨rfl, hb⟩; replace hb := Rw.next ((Below.refl _ _).drew) hb; replace c0 := (hb.cell lb).trans c0; replace c1 := (hb.cell lb).trans c1; replace c2 := (hb.cell lb).trans c2; replace mq := mq.below hb; replace hbel := Rw.next hbel hb; clear hb))
      go_wp2_with (go_at_call 124; refine (hMr _ mq).mono ?_; rintro e w2 ⟨rfl, hb⟩)
      go_roundw
      case rel => exact ⟨k + 1, by omega, by go_num, by rw [HK9.out], Rw.next hbel hb⟩
      case measure => simp [intOf]; omega
    · have he : k = n := by omega
      subst he
      go_wp2
      go_ret
      exact ⟨rfl, hbel⟩
theorem heldSt_any (k0 : Nat) (h0 : 0 < k0) (a : Option Addr) (b cap : Nat) (T : List Nm) (w : World) (h : MkN w k0 a b T) (h1 : kN T k0 T.length ≤ 10000000000) :
    Calls Tryz.prog 28 #[.agg #[.slice a T.length cap], .int .i64 k0] w fun e w' => e = .returned (.int .i64 ((kN T k0 T.length : Nat) : Int)) ∧ Below w.heap.size w w' := by
  have B := below_alloc1 w (.cells #[.slice a T.length cap] 25)
  have hM := heldNs_any k0 h0 a b cap T _ (h.below B) h1
  generalize kN T k0 T.length = K at hM ⊢
  have hneg : ¬ ((K : Int) < 0) := by omega
  go_enter Tryz.func28, Tryz.ntmps28
  go_wp2_with (go_at_call 73; refine hM.mono ?_; rintro e w1 ⟨rfl, hb⟩)
  go_ret
  exact ⟨rfl, Rw.next B hb⟩

end Go.Proofs.YtkpchlojapkimaaGreat.St

namespace Go.Proofs.YtkpchlojapkimaaGreat.Ch
set_option maxRecDepth 8000
set_option linter.unusedSimpArgs false
open Go Go.RowKit

theorem kC_shift (T : List Cm) (k0 : Nat) : ∀ i, kC T k0 i + 1 = kC T 1 i + k0
  | 0 => by simp only [kC]; omega
  | i + 1 => by have := kC_shift T k0 i; simp only [kC]; omega


end Go.Proofs.YtkpchlojapkimaaGreat.Ch

