/-
  Marks in relations: written and read again.
-/
import Derived.Test.YtljlgjgfmgilaaaGreatMb
namespace Go.Proofs.YtljlgjgfmgilaaaGreat.Rl
set_option maxRecDepth 8000
set_option linter.unusedSimpArgs false
set_option linter.unusedVariables false
open Go Go.RowKit
open Num Word Pl Rp

/-- How many values the first i rows have. -/
def cnt (Q : List Rm) : Nat → Nat
  | 0 => 0
  | i + 1 => cnt Q i + (Q.getD i rm0).l.length
theorem cnt_mono (Q : List Rm) {i j : Nat} (h : i ≤ j) : cnt Q i ≤ cnt Q j := by
  induction j with
  | zero => have : i = 0 := by omega
            subst this; exact Nat.le_refl _
  | succ j ih =>
    by_cases e : i = j + 1
    · subst e; exact Nat.le_refl _
    · have := ih (by omega)
      simp only [cnt]; omega
def UseQ (Q : List Rm) (x : Nat) : Prop := ∃ r ∈ Q, r.l.length ≠ 0 ∧ x = r.b
structure MkQ (w : World) (k0 : Nat) (a : Option Addr) (b : Nat) (Q : List Rm) : Prop where
  head : 0 < Q.length → a = some ⟨b, 0, none⟩
  cell : ∀ i, i < Q.length → w.cell? ⟨b, i, none⟩ = some (Q.getD i rm0).val
  mark : ∀ i, i < Q.length → (Q.getD i rm0).l.length ≠ 0 → (Q.getD i rm0).a = some ⟨(Q.getD i rm0).b, 0, none⟩ ∧ WtV w (Q.getD i rm0).b ((Q.getD i rm0).l.length * 2) (mkF (k0 + cnt Q i * 2))
  size : Q.length ≤ 4194304
  sizes : ∀ i, i < Q.length → (Q.getD i rm0).l.length ≤ 4194304
theorem MkQ.below {w w' : World} {k0 : Nat} {a : Option Addr} {b : Nat} {Q : List Rm} (h : MkQ w k0 a b Q) (hb : Below w.heap.size w w') : MkQ w' k0 a b Q :=
  ⟨h.head, fun i hi => (hb.cell (World.block_lt_of_cell? _ _ (h.cell i hi))).trans (h.cell i hi), fun i hi h0 => by obtain ⟨h1, h2⟩ := h.mark i hi h0; exact ⟨h1, h2.of_block (hb.block _ h2.lt)⟩, h.size, h.sizes⟩
theorem own_far {w : World} {lo hi : Nat} {a : Option Addr} {b : Nat} {Q : List Rm} (h : Own w lo hi a b Q) : Q.length = 0 ∨ ¬ UseQ Q b := by
  rcases h.blk with h0 | ⟨_, cs, hk⟩
  · exact .inl h0
  · refine .inr fun ⟨r, hr, hl, e⟩ => ?_
    obtain ⟨_, _, _, c2, h2, _⟩ := h.each r hr hl
    rw [← e, hk] at h2
    simp at h2
theorem own_diff {w : World} {lo hi : Nat} {a : Option Addr} {b : Nat} {Q : List Rm} (h : Own w lo hi a b Q) {i j : Nat} (hi : i < Q.length) (hj : j < Q.length) (hij : i ≠ j) (h1 : (Q.getD i rm0).l.length ≠ 0) (h2 : (Q.getD j rm0).l.length ≠ 0) : (Q.getD i rm0).b ≠ (Q.getD j rm0).b := by
  have pa : ∀ i j, (hi : i < Q.length) → (hj : j < Q.length) → i < j → (Q.getD i rm0).l.length ≠ 0 → (Q.getD j rm0).l.length ≠ 0 → (Q.getD i rm0).b ≠ (Q.getD j rm0).b := fun i j hi hj hij => by
    have := List.pairwise_iff_getElem.1 h.diff i j hi hj hij
    simpa [List.getD, hi, hj] using this
  rcases Nat.lt_or_ge i j with q | q
  · exact pa i j hi hj q h1 h2
  · exact fun e => pa j i hj hi (by omega) h2 h1 e.symm

set_option maxHeartbeats 2000000 in
theorem markT_any (k0 : Nat) (h0 : 0 < k0) (a : Option Addr) (b cap lo hi : Nat) (Q : List Rm) (w : World) (h : Own w lo hi a b Q) (h1 : k0 + cnt Q Q.length * 2 ≤ 100000000000) :
    Calls Tryz.prog 69 #[.slice a Q.length cap, .int .i64 k0] w fun e w' => e = .returned (.int .i64 ((k0 + cnt Q Q.length * 2 : Nat) : Int)) ∧ Kp (UseQ Q) w w' ∧ MkQ w' k0 a b Q := by
  have hfar := own_far h
  have HD : Hid (∀ i j, i < Q.length → j < Q.length → i ≠ j → (Q.getD i rm0).l.length ≠ 0 → (Q.getD j rm0).l.length ≠ 0 → (Q.getD i rm0).b ≠ (Q.getD j rm0).b) := fun i j hi hj hij a1 a2 => own_diff h hi hj hij a1 a2
  have HE : Hid (∀ i, i < Q.length → (Q.getD i rm0).l.length ≠ 0 → (Q.getD i rm0).a = some ⟨(Q.getD i rm0).b, 0, none⟩ ∧ WtV w (Q.getD i rm0).b ((Q.getD i rm0).l.length * 2) (Vl.flat (Q.getD i rm0).l)) := fun i hi h0 => by obtain ⟨e1, _, _, e2⟩ := h.each _ (getD_mem hi) h0; exact ⟨e1, e2⟩
  have HU : Hid (∀ i, i < Q.length → (Q.getD i rm0).l.length ≠ 0 → UseQ Q (Q.getD i rm0).b) := fun i hi h0 => ⟨_, getD_mem hi, h0, rfl⟩
  obtain ⟨hh, hc, ho, hs⟩ := h.rd
  have HSz : Hid (∀ i, i < Q.length → (Q.getD i rm0).l.length ≤ 4194304) := fun i hi => (ho i hi).size
  have hc0 : ∀ i, i < Q.length → w.cell? ⟨b, i, none⟩ = some (Q.getD i rm0).val := fun i hi => by have := hc i hi; rwa [Nat.zero_add] at this
  have HF : Hid (Q.length = 0 ∨ ¬ UseQ Q b) := hfar
  have HK : Hid (∀ i, i ≤ Q.length → k0 + cnt Q i * 2 ≤ 100000000000) := fun i hi => by have := cnt_mono Q hi; omega
  have HC : Hid (∀ i, cnt Q (i + 1) = cnt Q i + (Q.getD i rm0).l.length) := fun i => rfl
  have H2 : Hid (∀ i, 0 < k0 + cnt Q i * 2) := fun i => by omega
  clear hc ho h hfar h1
  obtain ⟨n, hn⟩ : ∃ n, n = Q.length := ⟨_, rfl⟩
  rw [← hn] at hh hc0 hs HD HE HU HSz HF HK ⊢
  have HN : Hid (n = Q.length) := hn
  clear hn
  go_enter Tryz.func69, Tryz.ntmps69
  go_wp2
  go_loopw [1, 5] (fun q i wr => ∃ k : Nat, k ≤ n ∧ i = .int .i64 k ∧ q = .int .i64 ((k0 + cnt Q k * 2 : Nat) : Int) ∧ Kp (UseQ Q) w wr ∧ (∀ j, j < n → (Q.getD j rm0).l.length ≠ 0 → WtV wr (Q.getD j rm0).b ((Q.getD j rm0).l.length * 2) (if j < k then mkF (k0 + cnt Q j * 2) else Vl.flat (Q.getD j rm0).l))) (fun _ i _ => n - (intOf i).toNat)
  case atStart => exact ⟨0, Nat.zero_le _, rfl, by simp [cnt], Kp.refl _ _, fun j hj h0 => by rw [if_neg (by omega)]; exact (HE.out j hj h0).2⟩
  case round =>
    obtain ⟨k, hk, rfl, rfl, hkp, hw⟩ := hrel
    have HW : Hid (∀ j, j < n → (Q.getD j rm0).l.length ≠ 0 → WtV wr (Q.getD j rm0).b ((Q.getD j rm0).l.length * 2) (if j < k then mkF (k0 + cnt Q j * 2) else Vl.flat (Q.getD j rm0).l)) := hw
    clear hw
    by_cases hlt : k < n
    · obtain rfl := hh (by omega)
      have hkz : (k : Int) < (n : Int) := by omega
      have c0 := (World.cell?_of_block (hkp.block b (World.block_lt_of_cell? _ _ (hc0 k hlt)) (HF.out.resolve_left (by omega)))).trans (hc0 k hlt)
      have e0 := fun h0 => (HE.out k hlt h0).1
      have w0 := fun h0 => HW.out k hlt h0
      rw [if_neg (by omega : ¬ k < k)] at w0
      have sz := HSz.out k hlt
      have hC := HC.out k
      have hU := HU.out k hlt
      have hDk : ∀ j, j < n → j ≠ k → (Q.getD j rm0).l.length ≠ 0 → (Q.getD k rm0).l.length ≠ 0 → (Q.getD j rm0).b ≠ (Q.getD k rm0).b := fun j hj hjk a1 a2 => HD.out j k hj hlt hjk a1 a2
      have HDk : Hid (∀ j, j < n → j ≠ k → (Q.getD j rm0).l.length ≠ 0 → (Q.getD k rm0).l.length ≠ 0 → (Q.getD j rm0).b ≠ (Q.getD k rm0).b) := hDk
      have HX : Hid (∀ j, j = k → Q.getD j rm0 = Q.getD k rm0) := fun j e => by rw [e]
      clear hDk
      generalize Q.getD k rm0 = x at c0 e0 w0 sz hC hU HDk HX
      obtain ⟨xa, xb, xo, xc, xl⟩ := x
      simp only [Rm.val] at c0 e0 w0 sz hC hU HDk HX
      obtain ⟨K, hK⟩ : ∃ K : Nat, K = k0 + cnt Q k * 2 := ⟨_, rfl⟩
      have hM := markV_any K (by rw [hK]; exact H2.out k) (by rw [hK]; exact HK.out k (by omega)) xa xb xc xl wr sz (fun h0 => ⟨e0 h0, w0 h0⟩)
      rw [← hK]
      have HKe : Hid (K = k0 + cnt Q k * 2) := hK
      have HCe : Hid (cnt Q (k + 1) = cnt Q k + xl.length) := hC
      clear hK hC e0 w0
      go_wp2_with (go_at_call 102; refine hM.mono ?_; rintro e w1 ⟨rfl, kp1, mk1⟩)
      go_roundw
      case rel =>
        refine ⟨k + 1, by omega, by go_num, by rw [HCe.out, HKe.out]; congr 2; omega, hkp.trans (kp1.imp fun x ⟨q1, q2⟩ => by rw [q2]; exact hU q1), fun j hj h0 => ?_⟩
        by_cases e : j = k
        · have ex := HX.out j e
          rw [ex] at h0 ⊢
          simp only at h0 ⊢
          rw [if_pos (by omega), e, ← HKe.out]
          exact mk1 h0
        · have q := HW.out j hj h0
          have hif : (if j < k + 1 then mkF (k0 + cnt Q j * 2) else Vl.flat (Q.getD j rm0).l) = (if j < k then mkF (k0 + cnt Q j * 2) else Vl.flat (Q.getD j rm0).l) := by
            by_cases e2 : j < k
            · rw [if_pos e2, if_pos (by omega)]
            · rw [if_neg e2, if_neg (by omega)]
          rw [hif]
          exact q.of_block (kp1.block _ q.lt fun ⟨q1, q2⟩ => HDk.out j hj e h0 q1 q2)
      case measure => simp [intOf]; omega
    · have he : k = n := by omega
      subst he
      go_wp2
      go_ret
      have hn2 := HN.out
      refine ⟨rfl, hkp, ⟨by rw [← hn2]; exact hh, fun i hi => ?_, fun i hi h0 => ?_, by omega, by rw [← hn2]; exact HSz.out⟩⟩
      · exact (World.cell?_of_block (hkp.block b (World.block_lt_of_cell? _ _ (hc0 i (by omega))) (HF.out.resolve_left (by omega)))).trans (hc0 i (by omega))
      · have q := HW.out i (by omega) h0
        rw [if_pos (by omega)] at q
        exact ⟨(HE.out i (by omega) h0).1, q⟩

set_option maxHeartbeats 2000000 in
theorem heldT_any (k0 : Nat) (h0 : 0 < k0) (a : Option Addr) (b cap : Nat) (Q : List Rm) (w : World) (h : MkQ w k0 a b Q) (h1 : k0 + cnt Q Q.length * 2 ≤ 100000000000) :
    Calls Tryz.prog 70 #[.slice a Q.length cap, .int .i64 k0] w fun e w' => e = .returned (.int .i64 ((k0 + cnt Q Q.length * 2 : Nat) : Int)) ∧ Below w.heap.size w w' := by
  obtain ⟨hh, hc, hm, hs, hz⟩ := h
  have HK : Hid (∀ i, i ≤ Q.length → k0 + cnt Q i * 2 ≤ 100000000000) := fun i hi => by have := cnt_mono Q hi; omega
  have HC : Hid (∀ i, cnt Q (i + 1) = cnt Q i + (Q.getD i rm0).l.length) := fun i => rfl
  have H2 : Hid (∀ i, 0 < k0 + cnt Q i * 2) := fun i => by omega
  have HM : Hid (∀ i, i < Q.length → (Q.getD i rm0).l.length ≠ 0 → (Q.getD i rm0).a = some ⟨(Q.getD i rm0).b, 0, none⟩ ∧ WtV w (Q.getD i rm0).b ((Q.getD i rm0).l.length * 2) (mkF (k0 + cnt Q i * 2))) := hm
  have HZ : Hid (∀ i, i < Q.length → (Q.getD i rm0).l.length ≤ 4194304) := hz
  clear hm hz h1
  obtain ⟨n, hn⟩ : ∃ n, n = Q.length := ⟨_, rfl⟩
  rw [← hn] at hh hc hs HK HM HZ ⊢
  clear hn
  go_enter Tryz.func70, Tryz.ntmps70
  go_wp2
  go_loopw [1, 5] (fun q i wr => ∃ k : Nat, k ≤ n ∧ i = .int .i64 k ∧ q = .int .i64 ((k0 + cnt Q k * 2 : Nat) : Int) ∧ Below w.heap.size w wr) (fun _ i _ => n - (intOf i).toNat)
  case atStart => exact ⟨0, Nat.zero_le _, rfl, by simp [cnt], Below.refl _ _⟩
  case round =>
    obtain ⟨k, hk, rfl, rfl, hbel⟩ := hrel
    by_cases hlt : k < n
    · obtain rfl := hh (by omega)
      have hkz : (k : Int) < (n : Int) := by omega
      have c0 := (hbel.cell (World.block_lt_of_cell? _ _ (hc k hlt))).trans (hc k hlt)
      have m0 := HM.out k hlt
      have sz := HZ.out k hlt
      have hC := HC.out k
      generalize Q.getD k rm0 = x at c0 m0 sz hC
      obtain ⟨xa, xb, xo, xc, xl⟩ := x
      simp only [Rm.val] at c0 m0 sz hC
      obtain ⟨K, hK⟩ : ∃ K : Nat, K = k0 + cnt Q k * 2 := ⟨_, rfl⟩
      rw [← hK] at m0
      have hM := heldV_any K (by rw [hK]; exact H2.out k) (by rw [hK]; exact HK.out k (by omega)) xa xb xc xl.length wr sz (fun h0 => ⟨(m0 h0).1, (m0 h0).2.of_block (hbel.block _ (m0 h0).2.lt)⟩)
      rw [← hK]
      have HKe : Hid (K = k0 + cnt Q k * 2) := hK
      have HCe : Hid (cnt Q (k + 1) = cnt Q k + xl.length) := hC
      have hneg : ¬ (((K + xl.length * 2 : Nat) : Int) < 0) := by omega
      clear hK hC m0
      go_wp2_with (go_at_call 103; refine hM.mono ?_; rintro e w1 ⟨rfl, hb⟩)
      go_roundw
      case rel => exact ⟨k + 1, by omega, by go_num, by rw [HCe.out, HKe.out]; congr 2; omega, Rw.next hbel hb⟩
      case measure => simp [intOf]; omega
    · have he : k = n := by omega
      subst he
      go_wp2
      go_ret
      exact ⟨rfl, hbel⟩

end Go.Proofs.YtljlgjgfmgilaaaGreat.Rl
