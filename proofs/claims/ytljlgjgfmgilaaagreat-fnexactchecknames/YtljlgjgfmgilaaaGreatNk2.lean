/-
  The given names, and the declarations put to them.
-/
import Derived.Test.YtljlgjgfmgilaaaGreatNb
import Derived.Test.YtljlgjgfmgilaaaGreatNd
namespace Go.Proofs.YtljlgjgfmgilaaaGreat.Nq
set_option maxRecDepth 8000
set_option linter.unusedSimpArgs false
set_option linter.unusedVariables false
open Go Go.ChangeShapes Go.WideShapes Go.RowKit
open Num Pl Pm
open Nb (Mem)

/-- A map with how often it was written. -/
def MemU (w : World) (b k : Nat) (L : List Nv) : Prop := ∃ D, Nb.Owns w b k D ∧ Nb.Is D L
theorem MemU.mem {w : World} {b k : Nat} {L : List Nv} (h : MemU w b k L) : Mem w b L := by
  obtain ⟨D, h1, h2⟩ := h
  exact ⟨k, D, h1, h2⟩
theorem MemU.below {w w' : World} {b k : Nat} {L : List Nv} (h : MemU w b k L) (hb : Below w.heap.size w w') : MemU w' b k L := by
  obtain ⟨D, h1, h2⟩ := h
  exact ⟨D, Nb.owns_below h1 hb, h2⟩
theorem MemU.put {w : World} {b k : Nat} {L : List Nv} (h : MemU w b k L) (hk : k < 1000) (s : ByteArray) (hs : s.size ≤ maxLen) (d : Dc) :
    ∃ w', (Instr.mapUpdate 59 (.map (some b)) (.string s) (.agg #[.int .i64 d.k, .string d.s, .int .i64 d.ar])).run Tryz.prog w = .ok () w' ∧ MemU w' b (k + 1) (Nb.putL L (s, d)) ∧ w.grownBy w' (some b) := by
  obtain ⟨D, h1, h2⟩ := h
  obtain ⟨w', hr, h3, h4⟩ := h1.update Nb.law Tryz.underlying59 (by unfold maxLen; omega) (Nb.key_mk hs) (Nb.elem_mk d)
  exact ⟨w', hr, ⟨_, h3, h2.put (p := (s, d)) hs⟩, h4⟩
theorem put_given : Nb.putL (Nb.putL [] (pk, gPk)) (fw, gFw) = given := by
  rw [Nb.put_new (L := []) (fun q hq => by simp at hq), Nb.put_new (fun q hq => by simp at hq; subst hq; exact pk_fw)]; rfl

set_option maxHeartbeats 4000000 in
theorem given_any (w : World) : Calls Tryz.prog 23 #[] w fun e w' => Below w.heap.size w w' ∧ e = .returned (.map (some w.heap.size)) ∧ MemU w' w.heap.size 2 given := by
  obtain ⟨W1, hW1⟩ : ∃ W1, W1 = w.alloc (.map #[] 0) := ⟨_, rfl⟩
  have B : Below w.heap.size w W1 := by rw [hW1]; exact below_alloc1 _ _
  have m0 : MemU W1 w.heap.size 0 [] := by
    refine ⟨.map [], ?_, Nb.is_nil⟩
    rw [hW1]
    exact World.ownsMap_made w Tryz.prog 9 Nb.elem
  obtain ⟨w2, q1, m1, g1⟩ := m0.put (by omega) pk (by unfold maxLen; decide) gPk
  obtain ⟨w3, q2, m2, g2⟩ := m1.put (by omega) fw (by unfold maxLen; decide) gFw
  have B2 := Nb.grown_below B g1 (Nat.le_refl _)
  have B3 := Nb.grown_below B2 g2 (Nat.le_refl _)
  rw [put_given] at m2
  unfold pk at q1
  unfold fw at q2
  simp only [gPk, gFw, pk, fw] at q1 q2
  rw [hW1] at q1
  have hmm := @run_makeMap Tryz.prog
  clear hW1 m0 m1 g1 g2 B B2
  go_enter Tryz.func23, Tryz.ntmps23
  go_wp2
  go_ret
  exact ⟨B3, rfl, m2⟩

theorem taken_look (D : List Dc) (k : Nat) (hk : k < D.length) : (lkp (full (D.take k)) (D.getD k dc0).s).isSome = taken D k := by
  rw [look_full]
  unfold taken
  generalize hs : (D.getD k dc0).s = s
  by_cases h1 : s = pk
  · simp [h1]
  · by_cases h2 : s = fw
    · simp [h1, h2, Ne.symm pk_fw]
    · rw [if_neg h1, if_neg h2]
      simp only [h1, h2, decide_false, Bool.false_or]
      refine Bool.eq_iff_iff.2 ?_
      rw [List.find?_isSome, List.any_eq_true]
      constructor
      · rintro ⟨d, hd, he⟩
        obtain ⟨i, hi, rfl⟩ := List.getElem_of_mem hd
        simp only [List.length_take] at hi
        refine ⟨i, List.mem_range.2 (by omega), ?_⟩
        have e : D.getD i dc0 = D[i]'(by omega) := by simp [List.getD, show i < D.length by omega]
        rw [e]
        simpa using he
      · rintro ⟨i, hi, he⟩
        have hi' := List.mem_range.1 hi
        have e : D.getD i dc0 = D[i]'(by omega) := by simp [List.getD, show i < D.length by omega]
        rw [e] at he
        refine ⟨D[i]'(by omega), ?_, by simpa using he⟩
        rw [List.mem_take_iff_getElem]
        exact ⟨i, by omega, rfl⟩
theorem full_step (D : List Dc) (k : Nat) (hk : k < D.length) (h : taken D k = false) : Nb.putL (full (D.take k)) ((D.getD k dc0).s, D.getD k dc0) = full (D.take (k + 1)) := by
  have hl := taken_look D k hk
  rw [h] at hl
  rw [Nb.put_new (fun q hq e => ?_)]
  · unfold full
    rw [List.take_add_one, List.map_append, List.append_assoc]
    congr 2
    simp [List.getD, hk, dv]
  · unfold lkp at hl
    rw [Option.isSome_map] at hl
    have hnone := Option.not_isSome_iff_eq_none.1 (show ¬ _ = true by rw [hl]; simp)
    exact List.find?_eq_none.1 hnone q hq (by simpa using e)

set_option maxHeartbeats 4000000 in
theorem declare_any (s : Sl Dc) (b : Nat) (w : World) (h : Rd kdDc 0 w s) (hlow : ∀ (h0 : 0 < s.Q.length), s.b < b) (hn : s.Q.length ≤ 16) (hm : MemU w b 2 given) :
    Calls Tryz.prog 24 #[.map (some b), .slice s.a s.Q.length s.c] w fun e w' => Below b w w' ∧ ∃ i : Nat, e = .returned (.int .i64 i) ∧ (∀ j, j < i → taken s.Q j = false) ∧ ((i < s.Q.length ∧ taken s.Q i = true) ∨ (i = s.Q.length ∧ Mem w' b (full s.Q))) := by
  obtain ⟨sa, sb, so, sc, Q⟩ := s
  simp only at h hlow hn ⊢
  obtain ⟨n, hn0⟩ : ∃ n, n = Q.length := ⟨_, rfl⟩
  have HTK : Hid (∀ k, k < n → (lkp (full (Q.take k)) (Q.getD k dc0).s).isSome = taken Q k) := fun k hk => taken_look Q k (by omega)
  have HST : Hid (∀ k, k < n → taken Q k = false → Nb.putL (full (Q.take k)) ((Q.getD k dc0).s, Q.getD k dc0) = full (Q.take (k + 1))) := fun k hk ht => full_step Q k (by omega) ht
  have HFU : Hid (full (Q.take n) = full Q) := by rw [Hid, hn0, List.take_length]
  have HSZ : Hid (∀ k, k < n → (Q.getD k dc0).s.size ≤ maxLen) := fun k hk => h.ok k (by simp only; omega)
  have hbw : b < w.heap.size := hm.mem.lt
  have HMU : Hid (MemU w b (0 + 2) (full (Q.take 0))) := by rw [Hid]; simpa [full] using hm
  rw [← hn0] at hn hlow ⊢
  have HN : Hid (n = Q.length) := hn0
  clear hm hn0
  go_enter Tryz.func24, Tryz.ntmps24
  go_wp2
  go_loopw [11] (fun i wr => ∃ k : Nat, k ≤ n ∧ i = .int .i64 k ∧ Below b w wr ∧ MemU wr b (k + 2) (full (Q.take k)) ∧ ∀ j, j < k → taken Q j = false) (fun i _ => n - (intOf i).toNat)
  case atStart => exact ⟨0, Nat.zero_le _, rfl, ⟨rfl, rfl, rfl, Nat.le_refl _, fun _ _ => rfl⟩, HMU.out, fun j hj => by omega⟩
  case round =>
    obtain ⟨k, hk, rfl, hbel, hmu, hpre⟩ := hrel
    have HP : Hid (∀ j, j < k → taken Q j = false) := hpre
    have HMK : Hid (MemU wr b (k + 2) (full (Q.take k))) := hmu
    clear hpre hmu HMU
    have hsz := hbel.size
    by_cases hlt : k < n
    · have hh := h.head (by have := HN.out; simp only; omega)
      have hkz : (k : Int) < (n : Int) := by omega
      obtain ⟨c0, c1, c2⟩ := cellsDc h (i := k) (by have := HN.out; simp only; omega)
      simp only at hh c0 c1 c2
      obtain rfl := hh
      have hsb := hlow (by omega)
      replace c0 := (hbel.cell (by exact hsb)).trans c0
      replace c1 := (hbel.cell (by exact hsb)).trans c1
      replace c2 := (hbel.cell (by exact hsb)).trans c2
      have hT := HTK.out k hlt
      have HS1 : Hid (taken Q k = false → Nb.putL (full (Q.take k)) ((Q.getD k dc0).s, Q.getD k dc0) = full (Q.take (k + 1))) := HST.out k hlt
      have hs1 := HSZ.out k hlt
      obtain ⟨y, hy⟩ : ∃ y, y = Q.getD k dc0 := ⟨_, rfl⟩
      rw [← hy] at c0 c1 c2 hT HS1 hs1
      have b2 := below_alloc1 wr (.cells #[.int .i64 y.k, .string y.s, .int .i64 y.ar] 48)
      have m2 := HMK.out.below b2
      obtain ⟨q1, q2⟩ := m2.mem.run hs1
      rw [hT] at q2
      generalize lk (full (Q.take k)) y.s = d at q1 q2
      have b3 := below_alloc1 (wr.alloc (.cells #[.int .i64 y.k, .string y.s, .int .i64 y.ar] 48)) (.cells #[.int .i64 d.k, .string d.s, .int .i64 d.ar] 48)
      have m3 := m2.below b3
      have D3 : Below b w ((wr.alloc (.cells #[.int .i64 y.k, .string y.s, .int .i64 y.ar] 48)).alloc (.cells #[.int .i64 d.k, .string d.s, .int .i64 d.ar] 48)) := by
        refine ⟨hbel.os, hbel.tape, hbel.output, by simp; omega, fun i hi => ?_⟩
        rw [b3.block i (by simp; omega), b2.block i (by omega), hbel.block i hi]
      clear h HSZ HTK HST b2 b3 hy
      cases ht : taken Q k with
      | true =>
        have HTT : Hid (taken Q k = true) := ht
        rw [ht] at q2
        clear hT HS1 m2 m3 q1 ht
        go_wp2
        go_ret
        exact ⟨D3, k, rfl, HP.out, .inl ⟨hlt, HTT.out⟩⟩
      | false =>
        have HTF : Hid (taken Q k = false) := ht
        have HPT : Hid (Nb.putL (full (Q.take k)) (y.s, y) = full (Q.take (k + 1))) := HS1.out ht
        rw [ht] at q2
        obtain ⟨w5, q5, m5, g5⟩ := m3.put (by omega) y.s hs1 y
        rw [HPT.out] at m5
        have D5 : Below b w w5 := D3.grown g5 (by have := D3.size; omega) (fun j hj => by cases hj; exact Nat.le_refl _)
        have HM5 : Hid (MemU w5 b (k + 2 + 1) (full (Q.take (k + 1)))) := m5
        have HPP : Hid (∀ j, j < k + 1 → taken Q j = false) := fun j hj => by
          by_cases e : j = k
          · subst e; exact HTF.out
          · exact HP.out j (by omega)
        clear hT HS1 m2 m3 m5 g5 q1 ht HPT HP HMK
        go_wp2
        go_roundw
        case rel => exact ⟨k + 1, by omega, by go_num, D5, by have := HM5.out; rwa [show k + 2 + 1 = k + 1 + 2 by omega] at this, HPP.out⟩
        case measure => simp [intOf]; omega
    · have he : k = n := by omega
      subst he
      clear h
      go_wp2
      go_ret
      exact ⟨hbel, k, rfl, HP.out, .inr ⟨rfl, by have := HMK.out.mem; rwa [HFU.out] at this⟩⟩

end Go.Proofs.YtljlgjgfmgilaaaGreat.Nq
