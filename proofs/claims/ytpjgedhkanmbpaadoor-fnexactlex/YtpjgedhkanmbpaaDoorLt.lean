/-
  Tokens: the texts of marks; marks in lists of tokens, written and read; likeness.
-/
import Derived.Test.YtpjgedhkanmbpaaDoorLo
import Derived.BigQuiet
import Derived.Deep.RegionHeld3
namespace Go.Proofs.YtpjgedhkanmbpaaDoor.Lt
open Go Go.RowKit
set_option maxRecDepth 8000
set_option linter.unusedVariables false
set_option linter.unusedSimpArgs false
open Num Word Pl Ly Lo

def dgt (d : Nat) : UInt8 := UInt8.ofNat (48 + d)
theorem one_byte (W : World) (b d : Nat) (hd : d < 10) (h : W.cell? ⟨b, 0, none⟩ = some (.int .u8 (48 + (d : Int)))) :
    (convert 47 9 (.slice (some ⟨b, 0, none⟩) 1 1)).run Tryd.prog W = .ok (.string ⟨#[dgt d]⟩) W := by
  have e : (((dgt d).toNat : Nat) : Int) = 48 + (d : Int) := by unfold dgt; simp only [UInt8.toNat_ofNat']; omega
  have := run_convert_bytes_back (P := Tryd.prog) W 47 9 5 ⟨b, 0, none⟩ 1 [dgt d] Tryd.underlying47 Tryd.underlying5 Tryd.underlying9 (fun j hj => by
    have : j = 0 := by simpa using hj
    subst this
    rw [show ([dgt d][0]'hj) = dgt d from rfl, e]
    simpa [Addr.add] using h)
  simpa using this
/-- The digits of k ahead of what is there; f: no more steps than that. -/
def mtF : Nat → Nat → ByteArray → ByteArray
  | 0, _, s => s
  | f + 1, k, s => if k = 0 then s else mtF f (k / 10) (⟨#[dgt (k % 10)]⟩ ++ s)
theorem mtF_more : ∀ (f k : Nat) (s : ByteArray), k ≤ f → mtF (f + 1) k s = mtF f k s
  | 0, k, s, h => by have : k = 0 := by omega
                     subst this; rfl
  | f + 1, k, s, h => by
    show (if k = 0 then s else mtF (f + 1) (k / 10) (⟨#[dgt (k % 10)]⟩ ++ s)) = (if k = 0 then s else mtF f (k / 10) (⟨#[dgt (k % 10)]⟩ ++ s))
    by_cases e : k = 0
    · rw [if_pos e, if_pos e]
    · rw [if_neg e, if_neg e]
      exact mtF_more f (k / 10) _ (by omega)
def mtG (k : Nat) (s : ByteArray) : ByteArray := mtF k k s
theorem mtF_eq : ∀ (f k : Nat) (s : ByteArray), k ≤ f → mtF f k s = mtG k s := by
  intro f
  induction f with
  | zero => intro k s h; have : k = 0 := by omega
            subst this; rfl
  | succ f ih =>
    intro k s h
    by_cases e : k = f + 1
    · subst e; rfl
    · rw [mtF_more f k s (by omega)]; exact ih k s (by omega)
theorem mtG_step {k : Nat} (h : 0 < k) (s : ByteArray) : mtG k s = mtG (k / 10) (⟨#[dgt (k % 10)]⟩ ++ s) := by
  obtain ⟨f, rfl⟩ : ∃ f, k = f + 1 := ⟨k - 1, by omega⟩
  unfold mtG
  rw [mtF, if_neg (by omega)]
  exact mtF_eq f _ _ (by omega)
theorem mtG_zero (s : ByteArray) : mtG 0 s = s := rfl
/-- The text of a mark. -/
def mt (k : Nat) : ByteArray := ⟨#[109]⟩ ++ mtG k ⟨#[]⟩

set_option maxHeartbeats 1000000 in
theorem text_any (k0 : Nat) (h0 : 0 < k0) (h1 : k0 ≤ 1000000000000) (w : World) :
    Calls Tryd.prog 17 #[.int .i64 k0] w fun e w' => e = .returned (.string (mt k0)) ∧ Below w.heap.size w w' := by
  have hk : ¬ (k0 : Int) ≤ 0 := by omega
  unfold mt
  obtain ⟨R, hR⟩ : ∃ R, R = mtG k0 ⟨#[]⟩ := ⟨_, rfl⟩
  rw [← hR]
  have H0 : Hid (mtG k0 ⟨#[]⟩ = R) := hR.symm
  clear hR
  go_enter Tryd.func17, Tryd.ntmps17
  go_wp2
  go_loopw [0, 3] (fun a b wr => ∃ (k : Nat) (s : ByteArray), k ≤ k0 ∧ a = .int .i64 k ∧ b = .string s ∧ Below w.heap.size w wr ∧ mtG k s = R ∧ s.size + k ≤ k0) (fun a _ _ => (intOf a).toNat)
  case atStart => exact ⟨k0, _, Nat.le_refl _, rfl, rfl, Below.refl _ _, H0.out, by show 0 + k0 ≤ k0; omega⟩
  case round =>
    obtain ⟨k, s, hk, rfl, rfl, hbel, hm, hsz⟩ := hrel
    have HSz : Hid (s.size + k ≤ k0) := hsz
    have hs1 : s.size ≤ 1000000000000 := by omega
    clear hsz
    by_cases hp : 0 < k
    · have hpz : (0 : Int) < (k : Int) := by omega
      have HM : Hid (mtG (k / 10) (⟨#[dgt (k % 10)]⟩ ++ s) = R) := (mtG_step hp s).symm.trans hm
      clear hm
      obtain ⟨d, hd⟩ : ∃ d, d = k % 10 := ⟨_, rfl⟩
      obtain ⟨q, hq⟩ : ∃ q, q = k / 10 := ⟨_, rfl⟩
      rw [← hd, ← hq] at HM
      have hq2 : q < k := by omega
      have e1 : Int.tmod (k : Int) 10 = (d : Int) := by rw [hd]; simp [Int.tmod]
      have e2 : Int.tdiv (k : Int) 10 = (q : Int) := by rw [hq]; rfl
      have hd9 : d < 10 := by omega
      clear hd hq
      have hB := below_alloc1 wr (.cells #[.int .u8 (48 + (d : Int))] 5)
      have hcv := one_byte (wr.alloc (.cells #[.int .u8 (48 + (d : Int))] 5)) wr.heap.size d hd9 (one (at_new rfl))
      go_wp2
      go_roundw
      case rel => exact ⟨q, _, by omega, rfl, rfl, Rw.next hbel hB, HM.out, by have := HSz.out; rw [ByteArray.size_append]; show 1 + s.size + q ≤ k0; omega⟩
      case measure => simp [intOf]; omega
    · have e : k = 0 := by omega
      subst e
      rw [mtG_zero] at hm
      have HM : Hid (s = R) := hm
      clear hm
      go_wp2
      go_ret
      exact ⟨by rw [← HM.out]; rfl, hbel⟩

/-- All blocks are kept but those that p tells. -/
structure Kp (p : Nat → Prop) (w w' : World) : Prop where
  os : w'.os = w.os
  tape : w'.tape = w.tape
  output : w'.output = w.output
  size : w.heap.size ≤ w'.heap.size
  block : ∀ x, x < w.heap.size → ¬ p x → w'.heap[x]? = w.heap[x]?
theorem Kp.refl (p : Nat → Prop) (w : World) : Kp p w w := ⟨rfl, rfl, rfl, Nat.le_refl _, fun _ _ _ => rfl⟩
theorem Kp.next {p : Nat → Prop} {w w1 w2 : World} (h : Kp p w w1) (k : Below w1.heap.size w1 w2) : Kp p w w2 :=
  ⟨k.os.trans h.os, k.tape.trans h.tape, k.output.trans h.output, Nat.le_trans h.size k.size, fun x hx hp => (k.block x (Nat.lt_of_lt_of_le hx h.size)).trans (h.block x hx hp)⟩
theorem Kp.trans {p : Nat → Prop} {w w1 w2 : World} (h : Kp p w w1) (k : Kp p w1 w2) : Kp p w w2 :=
  ⟨k.os.trans h.os, k.tape.trans h.tape, k.output.trans h.output, Nat.le_trans h.size k.size, fun x hx hp => (k.block x (Nat.lt_of_lt_of_le hx h.size) hp).trans (h.block x hx hp)⟩
theorem Kp.imp {p q : Nat → Prop} {w w1 : World} (h : Kp p w w1) (hi : ∀ x, p x → q x) : Kp q w w1 :=
  ⟨h.os, h.tape, h.output, h.size, fun x hx hp => h.block x hx fun k => hp (hi x k)⟩
theorem Kp.set {p : Nat → Prop} {w w1 : World} {a : Addr} {u : Value} (h : Kp p w w1) (ha : p a.block) : Kp p w (w1.setCell a u) :=
  ⟨h.os, h.tape, h.output, by simpa [World.setCell] using h.size, fun x hx hp => (Below.heap_setCell _ _ _ _ (fun e : x = a.block => hp (by rw [e]; exact ha))).trans (h.block x hx hp)⟩
theorem Kp.below {p : Nat → Prop} {n : Nat} {w0 w w1 : World} (h : Kp p w w1) (hb : Below n w0 w) (hn : n ≤ w.heap.size) (hp : ∀ x, p x → n ≤ x) : Below n w0 w1 :=
  ⟨h.os.trans hb.os, h.tape.trans hb.tape, h.output.trans hb.output, Nat.le_trans hb.size h.size, fun x hx => (h.block x (by omega) (fun k => by have := hp x k; omega)).trans (hb.block x hx)⟩

def WtT (w : World) (b n : Nat) (f : Nat → Value) : Prop := ∃ cs : Array Value, w.heap[b]? = some (.cells cs 31 (0, 0)) ∧ ∀ j, j < n → cs[j]? = some (f j)
theorem WtT.cell {w : World} {b n : Nat} {f : Nat → Value} (h : WtT w b n f) {i : Nat} (hi : i < n) : w.cell? ⟨b, i, none⟩ = some (f i) := by
  obtain ⟨c, hb, hc⟩ := h
  simp [World.cell?, hb, hc i hi]
theorem WtT.frozen {w : World} {b n : Nat} {f : Nat → Value} (h : WtT w b n f) (i : Nat) : w.frozen? ⟨b, i, none⟩ = false := by
  obtain ⟨c, hb, _⟩ := h
  simp [World.frozen?, hb]
theorem WtT.lt {w : World} {b n : Nat} {f : Nat → Value} (h : WtT w b n f) : b < w.heap.size := by
  obtain ⟨c, hb, _⟩ := h
  exact blk_lt hb
theorem WtT.congr {w : World} {b n : Nat} {f g : Nat → Value} (h : WtT w b n f) (e : ∀ i, i < n → f i = g i) : WtT w b n g := by
  obtain ⟨c, hb, hc⟩ := h
  exact ⟨c, hb, fun i hi => by rw [hc i hi, e i hi]⟩
theorem WtT.of_block {w w' : World} {b n : Nat} {f : Nat → Value} (h : WtT w b n f) (e : w'.heap[b]? = w.heap[b]?) : WtT w' b n f := by
  obtain ⟨c, hb, hc⟩ := h
  exact ⟨c, e.trans hb, hc⟩
theorem WtT.set {w : World} {b n : Nat} {f : Nat → Value} (h : WtT w b n f) (i : Nat) (v : Value) : WtT (w.setCell ⟨b, i, none⟩ v) b n (fun j => if j = i then v else f j) := by
  obtain ⟨c, hb, hc⟩ := h
  refine ⟨c.setIfInBounds i v, ?_, fun j hj => ?_⟩
  · simp [World.setCell, Array.getElem?_modify, hb]
  · rw [Array.getElem?_setIfInBounds]
    by_cases e : j = i
    · subst e
      have hj' : j < c.size := (Array.getElem?_eq_some_iff.1 (hc j hj)).1
      simp [hj']
    · rw [if_neg (fun h => e h.symm)]
      show c[j]? = some (if j = i then v else f j)
      rw [if_neg e]
      exact hc j hj



/-- The mark of cell j, from number k on. -/
def mkF (k j : Nat) : Value := if j % 4 = 2 then .string (mt (k + j)) else .int .i64 ((k + j : Nat) : Int)
def mixF (k : Nat) (T : List Tk) (m j : Nat) : Value := if j < m * 4 then mkF k j else (flat T).getD j (.int .i64 0)
theorem fl_at {T : List Tk} {k j : Nat} (h : k < T.length) (hj : j < 4) : (flat T).getD (k * 4 + j) (.int .i64 0) = (cel (T[k]'h)).getD j (.int .i64 0) := by
  simp only [List.getD]
  rw [flat_get T k j h hj]

set_option maxHeartbeats 2000000 in
theorem markT_any (k0 : Nat) (h0 : 0 < k0) (h1 : k0 ≤ 100000000000) (a : Option Addr) (b cap : Nat) (T : List Tk) (w : World) (hs : T.length ≤ 4194304) (hl : T.length ≠ 0 → a = some ⟨b, 0, none⟩ ∧ WtT w b (T.length * 4) (fun j => (flat T).getD j (.int .i64 0))) :
    Calls Tryd.prog 7 #[.slice a T.length cap, .int .i64 k0] w fun e w' => e = .returned (.int .i64 ((k0 + T.length * 4 : Nat) : Int)) ∧ Kp (fun x => T.length ≠ 0 ∧ x = b) w w' ∧ (T.length ≠ 0 → WtT w' b (T.length * 4) (mkF k0)) := by
  have HFL : Hid (∀ k (h : k < T.length) j, j < 4 → (flat T).getD (k * 4 + j) (.int .i64 0) = (cel (T[k]'h)).getD j (.int .i64 0)) := fun k h j hj => fl_at h hj
  have HFL0 : Hid (∀ k, k < T.length → ∃ t : Tk, ∀ j, j < 4 → (flat T).getD (k * 4 + j) (.int .i64 0) = (cel t).getD j (.int .i64 0)) := fun k h => ⟨T[k]'h, fun j hj => HFL.out k h j hj⟩
  clear HFL
  obtain ⟨n, hn⟩ : ∃ n, n = T.length := ⟨_, rfl⟩
  rw [← hn] at hs hl HFL0 ⊢
  have HW : Hid (n ≠ 0 → WtT w b (n * 4) (mixF k0 T 0)) := fun h => (hl h).2.congr fun j hj => by simp [mixF]
  have HA : Hid (n ≠ 0 → a = some ⟨b, 0, none⟩) := fun h => (hl h).1
  clear hl hn
  go_enter Tryd.func7, Tryd.ntmps7
  go_wp2
  go_loopw [1, 5] (fun q i wr => ∃ k : Nat, k ≤ n ∧ i = .int .i64 k ∧ q = .int .i64 ((k0 + k * 4 : Nat) : Int) ∧ Kp (fun x => n ≠ 0 ∧ x = b) w wr ∧ (n ≠ 0 → WtT wr b (n * 4) (mixF k0 T k))) (fun _ i _ => n - (intOf i).toNat)
  case atStart => exact ⟨0, Nat.zero_le _, rfl, rfl, Kp.refl _ _, HW.out⟩
  case round =>
    obtain ⟨k, hk, rfl, rfl, hkp, hw⟩ := hrel
    by_cases hlt : k < n
    · obtain rfl := HA.out (by omega)
      have hkz : (k : Int) < (n : Int) := by omega
      have wt := hw (by omega)
      clear hw
      have g0 := wt.cell (i := k * 4) (by omega)
      have g1 := wt.cell (i := k * 4 + 1) (by omega)
      have g2 := wt.cell (i := k * 4 + 2) (by omega)
      have g3 := wt.cell (i := k * 4 + 3) (by omega)
      obtain ⟨t, ht⟩ := HFL0.out k hlt
      have e0 : mixF k0 T k (k * 4) = .int .i64 t.k := by unfold mixF; rw [if_neg (by omega)]; exact ht 0 (by omega)
      have e1 : mixF k0 T k (k * 4 + 1) = .int .i64 t.n := by unfold mixF; rw [if_neg (by omega)]; exact ht 1 (by omega)
      have e2 : mixF k0 T k (k * 4 + 2) = .string t.s := by unfold mixF; rw [if_neg (by omega)]; exact ht 2 (by omega)
      have e3 : mixF k0 T k (k * 4 + 3) = .int .i64 t.p := by unfold mixF; rw [if_neg (by omega)]; exact ht 3 (by omega)
      rw [e0] at g0
      rw [e1] at g1
      rw [e2] at g2
      rw [e3] at g3
      clear ht
      generalize t.k = y0 at g0 e0
      generalize t.n = y1 at g1 e1
      generalize t.s = y2 at g2 e2
      generalize (t.p : Int) = y3 at g3 e3
      obtain ⟨K1, hK1⟩ : ∃ K1 : Nat, K1 = k0 + k * 4 := ⟨_, rfl⟩
      rw [← hK1]
      obtain ⟨K2, hK2⟩ : ∃ K2 : Nat, K2 = K1 + 1 := ⟨_, rfl⟩
      obtain ⟨K3, hK3⟩ : ∃ K3 : Nat, K3 = K2 + 1 := ⟨_, rfl⟩
      obtain ⟨K4, hK4⟩ : ∃ K4 : Nat, K4 = K3 + 1 := ⟨_, rfl⟩
      have eK1 : (K1 : Int) + 1 = (K2 : Int) := by omega
      have eK2 : (K2 : Int) + 1 = (K3 : Int) := by omega
      have eK3 : (K3 : Int) + 1 = (K4 : Int) := by omega
      have hT := fun W => text_any K3 (by omega) (by omega) W
      have HKK : Hid (K1 = k0 + k * 4 ∧ K2 = k0 + k * 4 + 1 ∧ K3 = k0 + k * 4 + 2 ∧ K4 = k0 + k * 4 + 3) := ⟨hK1, by omega, by omega, by omega⟩
      have hb4 : (K4 : Int) ≤ 1000000000000 := by omega
      have hb3 : (K3 : Int) ≤ 1000000000000 := by omega
      have hb2 : (K2 : Int) ≤ 1000000000000 := by omega
      have hb1 : (K1 : Int) ≤ 1000000000000 := by omega
      have hp4 : (0 : Int) ≤ (K4 : Int) := by omega
      have hp3 : (0 : Int) ≤ (K3 : Int) := by omega
      have hp2 : (0 : Int) ≤ (K2 : Int) := by omega
      have hp1 : (0 : Int) ≤ (K1 : Int) := by omega
      clear hK1 hK2 hK3 hK4
      have lb := wt.lt
      have f0 := wt.frozen (k * 4)
      have wt1 := wt.set (k * 4) (.int .i64 K1)
      have h1 := wt1.cell (i := k * 4 + 1) (by omega)
      rw [if_neg (by omega), e1] at h1
      have f1 := wt1.frozen (k * 4 + 1)
      have wt2 := wt1.set (k * 4 + 1) (.int .i64 K2)
      go_wp2_with (go_at_call 17; refine (hT _).mono ?_; rintro e w1 ⟨rfl, hb⟩; have lb1 := wt2.lt; replace wt2 := wt2.of_block (hb.block _ lb1); have i2 := wt2.cell (i := k * 4 + 2) (by omega); rw [if_neg (by omega), if_neg (by omega), e2] at i2; have f2 := wt2.frozen (k * 4 + 2); have wt3 := wt2.set (k * 4 + 2) (.string (mt K3)); have j3 := wt3.cell (i := k * 4 + 3) (by omega); rw [if_neg (by omega), if_neg (by omega), if_neg (by omega), e3] at j3; have f3 := wt3.frozen (k * 4 + 3))
      go_roundw
      case rel =>
        obtain ⟨q1, q2, q3, q4⟩ := HKK.out
        refine ⟨k + 1, by omega, by go_num, by simp only [Value.int.injEq, true_and]; omega, ((((hkp.set (a := ⟨b, k * 4, none⟩) (u := .int .i64 K1) ⟨by omega, rfl⟩).set (a := ⟨b, k * 4 + 1, none⟩) (u := .int .i64 K2) ⟨by omega, rfl⟩).next hb).set ⟨by omega, rfl⟩).set ⟨by omega, rfl⟩, fun _ => ?_⟩
        refine (wt3.set (k * 4 + 3) (.int .i64 K4)).congr fun j hj => ?_
        unfold mixF mkF
        by_cases a3 : j = k * 4 + 3
        · subst a3; rw [if_pos rfl, if_pos (by omega), if_neg (by omega), q4]; rfl
        rw [if_neg a3]
        by_cases a2 : j = k * 4 + 2
        · subst a2; rw [if_pos rfl, if_pos (by omega), if_pos (by omega), q3]; rfl
        rw [if_neg a2]
        by_cases a1 : j = k * 4 + 1
        · subst a1; rw [if_pos rfl, if_pos (by omega), if_neg (by omega), q2]; rfl
        rw [if_neg a1]
        by_cases a0 : j = k * 4
        · subst a0; rw [if_pos rfl, if_pos (by omega), if_neg (by omega), q1]
        rw [if_neg a0]
        have : (j < (k + 1) * 4) = (j < k * 4) := by rw [eq_iff_iff]; omega
        simp [this]
      case measure => simp [intOf]; omega
    · have he : k = n := by omega
      subst he
      go_wp2
      go_ret
      exact ⟨rfl, hkp, fun h => (hw h).congr fun j hj => by simp [mixF, hj]⟩

set_option maxHeartbeats 2000000 in
theorem heldT_any (k0 : Nat) (h0 : 0 < k0) (h1 : k0 ≤ 100000000000) (a : Option Addr) (b cap n : Nat) (w : World) (hs : n ≤ 4194304) (hl : n ≠ 0 → a = some ⟨b, 0, none⟩ ∧ WtT w b (n * 4) (mkF k0)) :
    Calls Tryd.prog 8 #[.slice a n cap, .int .i64 k0] w fun e w' => e = .returned (.int .i64 ((k0 + n * 4 : Nat) : Int)) ∧ Below w.heap.size w w' := by
  have HW : Hid (n ≠ 0 → WtT w b (n * 4) (mkF k0)) := fun h => (hl h).2
  have HA : Hid (n ≠ 0 → a = some ⟨b, 0, none⟩) := fun h => (hl h).1
  clear hl
  go_enter Tryd.func8, Tryd.ntmps8
  go_wp2
  go_loopw [1, 5] (fun q i wr => ∃ k : Nat, k ≤ n ∧ i = .int .i64 k ∧ q = .int .i64 ((k0 + k * 4 : Nat) : Int) ∧ Below w.heap.size w wr) (fun _ i _ => n - (intOf i).toNat)
  case atStart => exact ⟨0, Nat.zero_le _, rfl, rfl, Below.refl _ _⟩
  case round =>
    obtain ⟨k, hk, rfl, rfl, hbel⟩ := hrel
    by_cases hlt : k < n
    · obtain rfl := HA.out (by omega)
      have hkz : (k : Int) < (n : Int) := by omega
      have hk0 : (0 : Int) ≤ (k : Int) := by omega
      have wt0 := HW.out (by omega)
      have wt := wt0.of_block (hbel.block _ wt0.lt)
      have g0 := wt.cell (i := k * 4) (by omega)
      have g1 := wt.cell (i := k * 4 + 1) (by omega)
      have g2 := wt.cell (i := k * 4 + 2) (by omega)
      have g3 := wt.cell (i := k * 4 + 3) (by omega)
      have e0 : mkF k0 (k * 4) = .int .i64 ((k0 + k * 4 : Nat) : Int) := by unfold mkF; rw [if_neg (by omega)]
      have e1 : mkF k0 (k * 4 + 1) = .int .i64 ((k0 + k * 4 + 1 : Nat) : Int) := by unfold mkF; rw [if_neg (by omega)]; rfl
      have e2 : mkF k0 (k * 4 + 2) = .string (mt (k0 + k * 4 + 2)) := by unfold mkF; rw [if_pos (by omega)]; rfl
      have e3 : mkF k0 (k * 4 + 3) = .int .i64 ((k0 + k * 4 + 3 : Nat) : Int) := by unfold mkF; rw [if_neg (by omega)]; rfl
      rw [e0] at g0
      rw [e1] at g1
      rw [e2] at g2
      rw [e3] at g3
      clear e0 e1 e2 e3 wt wt0
      obtain ⟨K1, hK1⟩ : ∃ K1 : Nat, K1 = k0 + k * 4 := ⟨_, rfl⟩
      rw [← hK1] at g0 g1 g2 g3 ⊢
      obtain ⟨K2, hK2⟩ : ∃ K2 : Nat, K2 = K1 + 1 := ⟨_, rfl⟩
      obtain ⟨K3, hK3⟩ : ∃ K3 : Nat, K3 = K1 + 2 := ⟨_, rfl⟩
      obtain ⟨K4, hK4⟩ : ∃ K4 : Nat, K4 = K1 + 3 := ⟨_, rfl⟩
      rw [← hK2] at g1
      rw [← hK3] at g2
      rw [← hK4] at g3
      have eK1 : (K1 : Int) + 1 = (K2 : Int) := by omega
      have eK2 : (K2 : Int) + 1 = (K3 : Int) := by omega
      have eK3 : (K3 : Int) + 1 = (K4 : Int) := by omega
      have hT := fun W => text_any K3 (by omega) (by omega) W
      have HKK : Hid (K4 = k0 + k * 4 + 3) := (by omega : K4 = k0 + k * 4 + 3)
      have hb4 : (K4 : Int) ≤ 1000000000000 := by omega
      have hb3 : (K3 : Int) ≤ 1000000000000 := by omega
      have hb2 : (K2 : Int) ≤ 1000000000000 := by omega
      have hb1 : (K1 : Int) ≤ 1000000000000 := by omega
      have hp4 : (0 : Int) ≤ (K4 : Int) := by omega
      have hp3 : (0 : Int) ≤ (K3 : Int) := by omega
      have hp2 : (0 : Int) ≤ (K2 : Int) := by omega
      have hp1 : (0 : Int) ≤ (K1 : Int) := by omega
      have lb := World.block_lt_of_cell? _ _ g2
      generalize mt K3 = S at g2 hT
      have hq : (S.toList == S.toList) = true := by simp
      have hq2 : (S.toList != S.toList) = false := by simp
      clear hK1 hK2 hK3 hK4
      go_wp2
      go_region_held3 (fun w' => w'.cell? ⟨b, k * 4 + 2, none⟩ = some (.string S)) (go_keep) (first
        | (go_at_call 17; refine (hT _).mono ?_; rintro e w1 ⟨rfl, hb⟩; replace hb := Rw.next ((Below.refl _ _).drew) hb; replace hbel := Rw.next hbel hb; replace g2 := (hb.cell lb).trans g2; replace g3 := (hb.cell lb).trans g3))
      go_wp2
      go_roundw
      case rel => exact ⟨k + 1, by omega, by go_num, by have := HKK.out; simp only [Value.int.injEq, true_and]; omega, hbel⟩
      case measure => simp [intOf]; omega
    · have he : k = n := by omega
      subst he
      go_wp2
      go_ret
      exact ⟨rfl, hbel⟩

theorem eqT_any (x : Tk) (w : World) :
    Calls Tryd.prog 16 #[.agg #[.int .i64 x.k, .int .i64 x.n, .string x.s, .int .i64 x.p], .agg #[.int .i64 x.k, .int .i64 x.n, .string x.s, .int .i64 x.p]] w fun e w' => e = .returned (.bool true) ∧ Below w.heap.size w w' := by
  obtain ⟨k, n, s, p⟩ := x
  have B := below_alloc2 w (.cells #[.int .i64 k, .int .i64 n, .string s, .int .i64 p] 31) (.cells #[.int .i64 k, .int .i64 n, .string s, .int .i64 p] 31)
  have hq : (s.toList == s.toList) = true := by simp
  have hq2 : (s.toList != s.toList) = false := by simp
  go_enter Tryd.func16, Tryd.ntmps16
  go_wp2
  go_ret
  exact ⟨rfl, B⟩

/-- A list of tokens in memory. -/
structure Rd (w : World) (a : Option Addr) (b : Nat) (T : List Tk) : Prop where
  head : T.length ≠ 0 → a = some ⟨b, 0, none⟩
  cell : ∀ i (h : i < T.length) j, j < 4 → w.cell? ⟨b, i * 4 + j, none⟩ = some ((cel (T[i]'h)).getD j (.int .i64 0))
theorem Rd.below {w w' : World} {a : Option Addr} {b : Nat} {T : List Tk} (h : Rd w a b T) (hb : Below w.heap.size w w') : Rd w' a b T :=
  ⟨h.head, fun i hi j hj => (hb.cell (World.block_lt_of_cell? _ _ (h.cell i hi j hj))).trans (h.cell i hi j hj)⟩

set_option maxHeartbeats 1000000 in
theorem eqS_same (a a' : Option Addr) (b cap b' cap' : Nat) (T : List Tk) (w : World) (h : Rd w a b T) (h' : Rd w a' b' T) (hs : T.length ≤ 4194304) :
    Calls Tryd.prog 6 #[.slice a T.length cap, .slice a' T.length cap'] w fun e w' => e = .returned (.bool true) ∧ Below w.heap.size w w' := by
  have HR : Hid (∀ (wr : World) (i : Nat), Below w.heap.size w wr → i < T.length → ∃ x : Tk, (wr.cell? ⟨b, i * 4, none⟩ = some (.int .i64 x.k) ∧ wr.cell? ⟨b, i * 4 + 1, none⟩ = some (.int .i64 x.n) ∧ wr.cell? ⟨b, i * 4 + 2, none⟩ = some (.string x.s) ∧ wr.cell? ⟨b, i * 4 + 3, none⟩ = some (.int .i64 x.p)) ∧ (wr.cell? ⟨b', i * 4, none⟩ = some (.int .i64 x.k) ∧ wr.cell? ⟨b', i * 4 + 1, none⟩ = some (.int .i64 x.n) ∧ wr.cell? ⟨b', i * 4 + 2, none⟩ = some (.string x.s) ∧ wr.cell? ⟨b', i * 4 + 3, none⟩ = some (.int .i64 x.p))) := fun wr i hb hi => by
    have r := h.below hb
    have r' := h'.below hb
    exact ⟨T[i]'hi, ⟨r.cell i hi 0 (by omega), r.cell i hi 1 (by omega), r.cell i hi 2 (by omega), r.cell i hi 3 (by omega)⟩, ⟨r'.cell i hi 0 (by omega), r'.cell i hi 1 (by omega), r'.cell i hi 2 (by omega), r'.cell i hi 3 (by omega)⟩⟩
  have HA : Hid (T.length ≠ 0 → a = some ⟨b, 0, none⟩) := h.head
  have HA' : Hid (T.length ≠ 0 → a' = some ⟨b', 0, none⟩) := h'.head
  clear h h'
  obtain ⟨n, hn⟩ : ∃ n, n = T.length := ⟨_, rfl⟩
  rw [← hn] at hs HR HA HA' ⊢
  clear hn
  go_enter Tryd.func6, Tryd.ntmps6
  go_wp2
  go_loopw [5] (fun i wr => ∃ k : Nat, k ≤ n ∧ i = .int .i64 k ∧ Below w.heap.size w wr) (fun i _ => n - (intOf i).toNat)
  case atStart => exact ⟨0, Nat.zero_le _, rfl, Below.refl _ _⟩
  case round =>
    obtain ⟨k, hk, rfl, hbel⟩ := hrel
    by_cases hlt : k < n
    · obtain rfl := HA.out (by omega)
      obtain rfl := HA'.out (by omega)
      have hkz : (k : Int) < (n : Int) := by omega
      obtain ⟨x, ⟨c0, c1, c2, c3⟩, d0, d1, d2, d3⟩ := HR.out wr k hbel hlt
      have hE := fun W => eqT_any x W
      go_wp2
      go_region_with (go_at_call 16; refine (hE _).mono ?_; rintro e w1 ⟨rfl, hb⟩)
      all_goals go_wp2
      all_goals go_roundw
      all_goals first
        | exact ⟨k + 1, by omega, by go_num, Rw.next (by repeat (first | exact hbel | apply Below.drew)) hb⟩
        | (simp [intOf]; omega)
    · have he : k = n := by omega
      subst he
      go_wp2
      go_ret
      exact ⟨rfl, hbel⟩

end Go.Proofs.YtpjgedhkanmbpaaDoor.Lt
