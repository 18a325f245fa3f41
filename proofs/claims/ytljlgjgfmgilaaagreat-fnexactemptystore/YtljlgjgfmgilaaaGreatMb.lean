/-
  Marks in rows of values: written and read again.
-/
import Derived.Test.YtljlgjgfmgilaaaGreatMa
import Derived.BigQuiet
namespace Go.Proofs.YtljlgjgfmgilaaaGreat.Rl
set_option maxRecDepth 8000
set_option linter.unusedSimpArgs false
set_option linter.unusedVariables false
open Go Go.RowKit
open Num Word Pl Rp

/-- All blocks are kept but those that p tells. -/
structure Kp (p : Nat → Prop) (w w' : World) : Prop where
  os : w'.os = w.os
  tape : w'.tape = w.tape
  output : w'.output = w.output
  size : w.heap.size ≤ w'.heap.size
  block : ∀ x, x < w.heap.size → ¬ p x → w'.heap[x]? = w.heap[x]?
theorem Kp.refl (p : Nat → Prop) (w : World) : Kp p w w := ⟨rfl, rfl, rfl, Nat.le_refl _, fun _ _ _ => rfl⟩
theorem Kp.next {p : Nat → Prop} {w w1 w2 : World} (h : Kp p w w1) (k : Below w1.heap.size w1 w2) : Kp p w w2 :=
  ⟨k.os.trans h.os, k.tape.trans h.tape, k.output.trans h.output, Nat.le_trans h.size k.size, fun x hx hp => (k.block x (Nat.lt_of_lt_of_le hx h.size)).trans (h.block x hx hp)⟩
theorem Kp.trans {p : Nat → Prop} {w w1 w2 : World} (h : Kp p w w1) (k : Kp p w1 w2) : Kp p w w2 :=
  ⟨k.os.trans h.os, k.tape.trans h.tape, k.output.trans h.output, Nat.le_trans h.size k.size, fun x hx hp => (k.block x (Nat.lt_of_lt_of_le hx h.size) hp).trans (h.block x hx hp)⟩
theorem Kp.imp {p q : Nat → Prop} {w w1 : World} (h : Kp p w w1) (hi : ∀ x, p x → q x) : Kp q w w1 :=
  ⟨h.os, h.tape, h.output, h.size, fun x hx hp => h.block x hx fun k => hp (hi x k)⟩
theorem Kp.set {p : Nat → Prop} {w w1 : World} {a : Addr} {u : Value} (h : Kp p w w1) (ha : p a.block) : Kp p w (w1.setCell a u) :=
  ⟨h.os, h.tape, h.output, by simpa [World.setCell] using h.size, fun x hx hp => (Below.heap_setCell _ _ _ _ (fun e : x = a.block => hp (by rw [e]; exact ha))).trans (h.block x hx hp)⟩
theorem Kp.below {p : Nat → Prop} {n : Nat} {w0 w w1 : World} (h : Kp p w w1) (hb : Below n w0 w) (hn : n ≤ w.heap.size) (hp : ∀ x, p x → n ≤ x) : Below n w0 w1 :=
  ⟨h.os.trans hb.os, h.tape.trans hb.tape, h.output.trans hb.output, Nat.le_trans hb.size h.size, fun x hx => (h.block x (by omega) (fun k => by have := hp x k; omega)).trans (hb.block x hx)⟩

/-- The mark of cell j, from number k on. -/
def mkF (k j : Nat) : Value := if j % 2 = 0 then .int .i64 ((k + j : Nat) : Int) else .string (mt (k + j))
def mixF (k : Nat) (l : RowL) (m j : Nat) : Value := if j < m * 2 then mkF k j else Vl.flat l j
theorem mix_step {w : World} {b n k : Nat} {l : RowL} {m : Nat} (h : WtV w b n (mixF k l m)) :
    WtV ((w.setCell ⟨b, m * 2, none⟩ (.int .i64 ((k + m * 2 : Nat) : Int))).setCell ⟨b, m * 2 + 1, none⟩ (.string (mt (k + m * 2 + 1)))) b n (mixF k l (m + 1)) := by
  refine ((h.set _ _).set _ _).congr fun j hj => ?_
  unfold mixF mkF
  by_cases e1 : j = m * 2 + 1
  · subst e1; rw [if_pos rfl, if_pos (by omega), if_neg (by omega)]; rfl
  · rw [if_neg e1]
    by_cases e0 : j = m * 2
    · subst e0; rw [if_pos rfl, if_pos (by omega), if_pos (by omega)]
    · rw [if_neg e0]
      have : (j < (m + 1) * 2) = (j < m * 2) := by rw [eq_iff_iff]; omega
      simp [this]

set_option maxHeartbeats 2000000 in
theorem markV_any (k0 : Nat) (h0 : 0 < k0) (h1 : k0 ≤ 100000000000) (a : Option Addr) (b cap : Nat) (l : RowL) (w : World) (hs : l.length ≤ 4194304) (hl : l.length ≠ 0 → a = some ⟨b, 0, none⟩ ∧ WtV w b (l.length * 2) (Vl.flat l)) :
    Calls Tryz.prog 102 #[.slice a l.length cap, .int .i64 k0] w fun e w' => e = .returned (.int .i64 ((k0 + l.length * 2 : Nat) : Int)) ∧ Kp (fun x => l.length ≠ 0 ∧ x = b) w w' ∧ (l.length ≠ 0 → WtV w' b (l.length * 2) (mkF k0)) := by
  obtain ⟨n, hn⟩ : ∃ n, n = l.length := ⟨_, rfl⟩
  rw [← hn] at hs hl ⊢
  have HW : Hid (n ≠ 0 → WtV w b (n * 2) (mixF k0 l 0)) := fun h => (hl h).2.congr fun j hj => by simp [mixF]
  have HA : Hid (n ≠ 0 → a = some ⟨b, 0, none⟩) := fun h => (hl h).1
  clear hl hn
  go_enter Tryz.func102, Tryz.ntmps102
  go_wp2
  go_loopw [1, 5] (fun q i wr => ∃ k : Nat, k ≤ n ∧ i = .int .i64 k ∧ q = .int .i64 ((k0 + k * 2 : Nat) : Int) ∧ Kp (fun x => n ≠ 0 ∧ x = b) w wr ∧ (n ≠ 0 → WtV wr b (n * 2) (mixF k0 l k))) (fun _ i _ => n - (intOf i).toNat)
  case atStart => exact ⟨0, Nat.zero_le _, rfl, rfl, Kp.refl _ _, HW.out⟩
  case round =>
    obtain ⟨k, hk, rfl, rfl, hkp, hw⟩ := hrel
    by_cases hlt : k < n
    · obtain rfl := HA.out (by omega)
      have hkz : (k : Int) < (n : Int) := by omega
      have wt := hw (by omega)
      clear hw
      have g0 := wt.cell (i := k * 2) (by omega)
      have g1 := wt.cell (i := k * 2 + 1) (by omega)
      have f0 := wt.frozen (k * 2)
      have e0 : mixF k0 l k (k * 2) = .int .i64 (l.getD k Vl.z2).1 := by unfold mixF; rw [if_neg (by omega), Vl.flat0]
      have e1 : mixF k0 l k (k * 2 + 1) = .string (l.getD k Vl.z2).2 := by unfold mixF; rw [if_neg (by omega), Vl.flat1]
      rw [e0] at g0
      rw [e1] at g1
      clear e0 e1
      generalize (l.getD k Vl.z2).1 = y0 at g0
      generalize (l.getD k Vl.z2).2 = y1 at g1
      obtain ⟨K1, hK1⟩ : ∃ K1 : Nat, K1 = k0 + k * 2 := ⟨_, rfl⟩
      have eK : (K1 : Int) + 1 = ((K1 + 1 : Nat) : Int) := by omega
      have hKb : K1 + 1 ≤ 1000000000000 := by omega
      rw [← hK1]
      obtain ⟨K2, hK2⟩ : ∃ K2 : Nat, K2 = K1 + 1 := ⟨_, rfl⟩
      rw [← hK2] at eK hKb
      have hT := fun W => text_any K2 (by omega) hKb W
      have HKK : Hid (K1 = k0 + k * 2 ∧ K2 = k0 + k * 2 + 1) := ⟨hK1, by omega⟩
      have hb2 : (K2 : Int) ≤ 1000000000000 := by omega
      have hb3 : (0 : Int) ≤ (K2 : Int) := by omega
      have hb4 : (K1 : Int) ≤ 1000000000000 := by omega
      have hb5 : (0 : Int) ≤ (K1 : Int) := by omega
      have lb := wt.lt
      have wt1 := wt.set (k * 2) (.int .i64 K1)
      clear hK1 hK2
      have g2 := wt1.cell (i := k * 2 + 1) (by omega)
      have g3 : (if k * 2 + 1 = k * 2 then Value.int .i64 K1 else mixF k0 l k (k * 2 + 1)) = mixF k0 l k (k * 2 + 1) := if_neg (by omega)
      rw [g3] at g2
      go_wp2_with (go_at_call 66; refine (hT _).mono ?_; rintro e w1 ⟨rfl, hb⟩; have lb1 := wt1.lt; replace wt1 := wt1.of_block (hb.block _ lb1); have g4 := wt1.cell (i := k * 2 + 1) (by omega); rw [g3] at g4; have f4 := wt1.frozen (k * 2 + 1); have HB : Hid (Below (w1).heap.size w1 w1) := Below.refl _ _)
      go_roundw
      case rel =>
        obtain ⟨q1, q2⟩ := HKK.out
        refine ⟨k + 1, by omega, by go_num, by simp only [Value.int.injEq, true_and]; omega, ((hkp.set (a := ⟨b, k * 2, none⟩) (u := .int .i64 K1) ⟨by omega, rfl⟩).next hb).set ⟨by omega, rfl⟩, fun _ => ?_⟩
        refine (wt1.set (k * 2 + 1) (.string (mt K2))).congr fun j hj => ?_
        unfold mixF mkF
        by_cases e1 : j = k * 2 + 1
        · subst e1; rw [if_pos rfl, if_pos (by omega), if_neg (by omega), q2]; rfl
        · rw [if_neg e1]
          by_cases e0 : j = k * 2
          · subst e0; rw [if_pos rfl, if_pos (by omega), if_pos (by omega), q1]
          · rw [if_neg e0]
            have : (j < (k + 1) * 2) = (j < k * 2) := by rw [eq_iff_iff]; omega
            simp [this]
      case measure => simp [intOf]; omega
    · have he : k = n := by omega
      subst he
      go_wp2
      go_ret
      exact ⟨rfl, hkp, fun h => (hw h).congr fun j hj => by simp [mixF, hj]⟩

set_option maxHeartbeats 2000000 in
theorem heldV_any (k0 : Nat) (h0 : 0 < k0) (h1 : k0 ≤ 100000000000) (a : Option Addr) (b cap n : Nat) (w : World) (hs : n ≤ 4194304) (hl : n ≠ 0 → a = some ⟨b, 0, none⟩ ∧ WtV w b (n * 2) (mkF k0)) :
    Calls Tryz.prog 103 #[.slice a n cap, .int .i64 k0] w fun e w' => e = .returned (.int .i64 ((k0 + n * 2 : Nat) : Int)) ∧ Below w.heap.size w w' := by
  have HW : Hid (n ≠ 0 → WtV w b (n * 2) (mkF k0)) := fun h => (hl h).2
  have HA : Hid (n ≠ 0 → a = some ⟨b, 0, none⟩) := fun h => (hl h).1
  clear hl
  go_enter Tryz.func103, Tryz.ntmps103
  go_wp2
  go_loopw [1, 5] (fun q i wr => ∃ k : Nat, k ≤ n ∧ i = .int .i64 k ∧ q = .int .i64 ((k0 + k * 2 : Nat) : Int) ∧ Below w.heap.size w wr) (fun _ i _ => n - (intOf i).toNat)
  case atStart => exact ⟨0, Nat.zero_le _, rfl, rfl, Below.refl _ _⟩
  case round =>
    obtain ⟨k, hk, rfl, rfl, hbel⟩ := hrel
    by_cases hlt : k < n
    · obtain rfl := HA.out (by omega)
      have hkz : (k : Int) < (n : Int) := by omega
      have hk0 : (0 : Int) ≤ (k : Int) := by omega
      have wt0 := HW.out (by omega)
      have wt := wt0.of_block (hbel.block _ wt0.lt)
      have g0 := wt.cell (i := k * 2) (by omega)
      have g1 := wt.cell (i := k * 2 + 1) (by omega)
      have e0 : mkF k0 (k * 2) = .int .i64 ((k0 + k * 2 : Nat) : Int) := by unfold mkF; rw [if_pos (by omega)]
      have e1 : mkF k0 (k * 2 + 1) = .string (mt (k0 + k * 2 + 1)) := by unfold mkF; rw [if_neg (by omega)]; rfl
      rw [e0] at g0
      rw [e1] at g1
      clear e0 e1 wt wt0
      obtain ⟨K1, hK1⟩ : ∃ K1 : Nat, K1 = k0 + k * 2 := ⟨_, rfl⟩
      rw [← hK1] at g0 g1 ⊢
      obtain ⟨K2, hK2⟩ : ∃ K2 : Nat, K2 = K1 + 1 := ⟨_, rfl⟩
      rw [← hK2] at g1
      have eK : (K1 : Int) + 1 = (K2 : Int) := by omega
      have hT := fun W => text_any K2 (by omega) (by omega) W
      have HKK : Hid (K1 = k0 + k * 2 ∧ K2 = k0 + k * 2 + 1) := ⟨hK1, by omega⟩
      have hb2 : (K2 : Int) ≤ 1000000000000 := by omega
      have hb3 : (0 : Int) ≤ (K2 : Int) := by omega
      have hb4 : (K1 : Int) ≤ 1000000000000 := by omega
      have hb5 : (0 : Int) ≤ (K1 : Int) := by omega
      have lb := World.block_lt_of_cell? _ _ g1
      generalize mt K2 = S at g1 hT
      have hq : (S.toList == S.toList) = true := by simp
      have hq2 : (S.toList != S.toList) = false := by simp
      clear hK1 hK2
      go_wp2
      go_region_held3 (fun w' => w'.cell? ⟨b, k * 2 + 1, none⟩ = some (.string S)) (go_keep) (first
        | (go_at_call 66; refine (hT _).mono ?_; rintro e w1 ⟨rfl, hb⟩; replace hb := Rw.next ((Below.refl _ _).drew) hb; replace hbel := Rw.next hbel hb; replace g1 := (hb.cell lb).trans g1))
      go_wp2
      go_roundw
      case rel => exact ⟨k + 1, by omega, by go_num, by have := HKK.out; simp only [Value.int.injEq, true_and]; omega, hbel⟩
      case measure => simp [intOf]; omega
    · have he : k = n := by omega
      subst he
      go_wp2
      go_ret
      exact ⟨rfl, hbel⟩

end Go.Proofs.YtljlgjgfmgilaaaGreat.Rl
