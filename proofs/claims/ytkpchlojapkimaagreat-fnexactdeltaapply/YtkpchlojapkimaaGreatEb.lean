/-
  Sizes of deltas.
-/
import Derived.Test.YtkpchlojapkimaaGreatEa
namespace Go.Proofs.YtkpchlojapkimaaGreat.Ch
set_option maxRecDepth 8000
set_option linter.unusedSimpArgs false
set_option linter.unusedVariables false
open Go Go.ChangeShapes Go.WideShapes Go.RowKit
open Num Word Pl Rp
open Rl (Rm rm0 said)

theorem five {w : World} {g : Nat} {u v x y z : Value} {t : TypeId} (h : w.heap[g]? = some (.cells #[u, v, x, y, z] t (0, 0))) : w.cell? ⟨g, 0, none⟩ = some u ∧ w.cell? ⟨g, 1, none⟩ = some v ∧ w.cell? ⟨g, 2, none⟩ = some x ∧ w.cell? ⟨g, 3, none⟩ = some y ∧ w.cell? ⟨g, 4, none⟩ = some z := by
  refine ⟨?_, ?_, ?_, ?_, ?_⟩ <;> simp [World.cell?, h]

/-- What a relation takes. -/
def rs (S : List Rl.Raw) : Nat := S.length + Rl.totR S S.length

set_option maxHeartbeats 1000000 in
theorem szC_at (s : ByteArray) (ar br : Int) (a d : Option Addr) (c e L R : Nat) (S U : List Rl.Raw) (w : World) (hs : s.size ≤ maxLen) (h : Rl.IsRel w a S) (h' : Rl.IsRel w d U) (hR : s.size + rs S + rs U + R = L) (hL : L ≤ 1048576) :
    Calls Tryz.prog 113 #[.agg #[.string s, .int .i64 ar, .slice a S.length c, .int .i64 br, .slice d U.length e], .int .i64 L] w fun e w' => e = .returned (.int .i64 R) ∧ Below w.heap.size w w' := by
  obtain ⟨W1, hW1⟩ : ∃ W1, W1 = w.alloc (.cells #[.string s, .int .i64 ar, .slice a S.length c, .int .i64 br, .slice d U.length e] 160) := ⟨_, rfl⟩
  have B : Below w.heap.size w W1 := by subst hW1; exact below_alloc1 _ _
  have k0 : W1.heap[w.heap.size]? = some (.cells #[.string s, .int .i64 ar, .slice a S.length c, .int .i64 br, .slice d U.length e] 160 (0, 0)) := by subst hW1; exact at_new rfl
  obtain ⟨M, hM⟩ : ∃ M, s.size + M = L := ⟨L - s.size, by omega⟩
  obtain ⟨N, hN⟩ : ∃ N, rs S + N = M := ⟨M - rs S, by omega⟩
  have h0 : ¬ ((L : Int) - (s.size : Int) < 0) := by omega
  have eM : (L : Int) - (s.size : Int) = (M : Int) := by omega
  have h1 : ¬ ((N : Int) < 0) := by omega
  have h2 : ¬ ((R : Int) < 0) := by omega
  have hc := Rl.szL_at ar a c M N S _ (h.below B) hN (by omega)
  have hd := fun W hh => Rl.szL_at br d e N R U W hh (by unfold rs at *; omega) (by omega)
  rw [← eM] at hc
  have HL : Hid (L ≤ 1048576) := hL
  have hlo : s.size ≤ L := by omega
  replace h' := h'.below B
  clear hR hM eM hN
  go_enter Tryz.func113, Tryz.ntmps113
  have tok1 : True := trivial
  go_wp2_with (first
    | (go_at_call 145; clear tok1; rw [← hW1]; clear hW1; refine hc.mono ?_; rintro e w1 ⟨rfl, hb⟩; replace k0 := (hb.block _ (blk_lt k0)).trans k0; obtain ⟨p0, p1, p2, p3, p4⟩ := five k0; have tok2 : True := trivial)
    | (go_at_call 145; clear tok2; refine (hd _ (h'.below hb)).mono ?_; rintro e w2 ⟨rfl, hb'⟩))
  go_ret
  exact ⟨rfl, Rw.next B (Rw.next hb hb')⟩
set_option maxHeartbeats 1000000 in
theorem szC_big (s : ByteArray) (ar br : Int) (a d : Option Addr) (c e L : Nat) (S U : List Rl.Raw) (w : World) (hs : s.size ≤ maxLen) (h : Rl.IsRel w a S) (h' : Rl.IsRel w d U) (hR : L < s.size + rs S + rs U) (hL : L ≤ 1048576) :
    Calls Tryz.prog 113 #[.agg #[.string s, .int .i64 ar, .slice a S.length c, .int .i64 br, .slice d U.length e], .int .i64 L] w fun e w' => e = .returned (.int .i64 (-1)) ∧ Below w.heap.size w w' := by
  obtain ⟨W1, hW1⟩ : ∃ W1, W1 = w.alloc (.cells #[.string s, .int .i64 ar, .slice a S.length c, .int .i64 br, .slice d U.length e] 160) := ⟨_, rfl⟩
  have B : Below w.heap.size w W1 := by subst hW1; exact below_alloc1 _ _
  have k0 : W1.heap[w.heap.size]? = some (.cells #[.string s, .int .i64 ar, .slice a S.length c, .int .i64 br, .slice d U.length e] 160 (0, 0)) := by subst hW1; exact at_new rfl
  by_cases hlo : s.size ≤ L
  · obtain ⟨M, hM⟩ : ∃ M, s.size + M = L := ⟨L - s.size, by omega⟩
    have h0 : ¬ ((L : Int) - (s.size : Int) < 0) := by omega
    have eM : (L : Int) - (s.size : Int) = (M : Int) := by omega
    by_cases hlo2 : rs S ≤ M
    · obtain ⟨N, hN⟩ : ∃ N, rs S + N = M := ⟨M - rs S, by omega⟩
      have h1 : ¬ ((N : Int) < 0) := by omega
      have hc := Rl.szL_at ar a c M N S _ (h.below B) hN (by omega)
      have hd := fun W hh => Rl.szL_big br d e N U W hh (by unfold rs at *; omega) (by omega)
      rw [← eM] at hc
      replace h' := h'.below B
      clear hR hM eM hN hlo2
      go_enter Tryz.func113, Tryz.ntmps113
      have tok1 : True := trivial
      go_wp2_with (first
        | (go_at_call 145; clear tok1; rw [← hW1]; clear hW1; refine hc.mono ?_; rintro e w1 ⟨rfl, hb⟩; replace k0 := (hb.block _ (blk_lt k0)).trans k0; obtain ⟨p0, p1, p2, p3, p4⟩ := five k0; have tok2 : True := trivial)
        | (go_at_call 145; clear tok2; refine (hd _ (h'.below hb)).mono ?_; rintro e w2 ⟨rfl, hb'⟩))
      go_ret
      exact ⟨rfl, Rw.next B (Rw.next hb hb')⟩
    · have hc := Rl.szL_big ar a c M S _ (h.below B) (by unfold rs at *; omega) (by omega)
      rw [← eM] at hc
      clear hR hM eM hlo2
      go_enter Tryz.func113, Tryz.ntmps113
      go_wp2_with (go_at_call 145; rw [← hW1]; clear hW1; refine hc.mono ?_; rintro e w1 ⟨rfl, hb⟩)
      go_ret
      exact ⟨rfl, Rw.next B hb⟩
  · unfold maxLen at hs
    have h0 : (L : Int) - (s.size : Int) < 0 := by omega
    clear hR
    go_enter Tryz.func113, Tryz.ntmps113
    go_wp2
    go_ret
    exact ⟨rfl, by rw [← hW1]; exact B⟩

set_option maxHeartbeats 1000000 in
theorem szCs_at (a : Option Addr) (c L R : Nat) (S : List Raw) (w : World) (h : IsDl w a S) (hR : S.length + totC S S.length + R = L) (hL : L ≤ 1048576) :
    Calls Tryz.prog 57 #[.slice a S.length c, .int .i64 L] w fun e w' => e = .returned (.int .i64 R) ∧ Below w.heap.size w w' := by
  obtain ⟨hm, hs, h3⟩ := h
  obtain ⟨n, hn⟩ : ∃ n, n = S.length := ⟨_, rfl⟩
  rw [← hn] at hm hs h3 hR ⊢
  have h0 : ¬ ((L : Int) - (n : Int) < 0) := by omega
  have HR : Hid (n + totC S n + R = L) := hR
  have HH : Hid (n = 0 ∨ ∃ b off, a = some ⟨b, off, none⟩ ∧ ∀ i, i < n → At5 w b off i (S.getD i raw0).s (S.getD i raw0).ar (.slice (S.getD i raw0).a (S.getD i raw0).S.length (S.getD i raw0).c) (S.getD i raw0).br (.slice (S.getD i raw0).d (S.getD i raw0).U.length (S.getD i raw0).e)) := h3
  have HS : Hid (∀ i, i < n → (S.getD i raw0).s.size ≤ maxLen ∧ Rl.IsRel w (S.getD i raw0).a (S.getD i raw0).S ∧ Rl.IsRel w (S.getD i raw0).d (S.getD i raw0).U) := hs
  have hnL : n ≤ L := by omega
  clear hn hR hs h3
  go_enter Tryz.func57, Tryz.ntmps57
  go_wp2
  go_loopw [1, 5] (fun u i wr => ∃ k : Nat, k ≤ n ∧ i = .int .i64 k ∧ u = .int .i64 ((L - n - totC S k : Nat) : Int) ∧ Below w.heap.size w wr) (fun _ i _ => n - (intOf i).toNat)
  case atStart => exact ⟨0, Nat.zero_le _, rfl, by simp only [totC]; congr 1; omega, Below.refl _ _⟩
  case round =>
    obtain ⟨k, hk, rfl, rfl, hbel⟩ := hrel
    have q1 := totC_mono S hk
    by_cases hlt : k < n
    · have q2 := totC_mono S (i := k + 1) (j := n) hlt
      simp only [totC] at q2
      obtain ⟨b, off, rfl, hc⟩ := HH.out.resolve_left (by omega)
      have hkz : (k : Int) < (n : Int) := by omega
      obtain ⟨c0, c1, c2, c3, c4⟩ := (hc k hlt).of hbel (hc k hlt).lt
      obtain ⟨hsz, ir0, iu0⟩ := HS.out k hlt
      have ir := ir0.below hbel
      have iu := iu0.below hbel
      clear ir0 iu0
      have hr := HR.out
      have HT : Hid (totC S (k + 1) = totC S k + wt (S.getD k raw0)) := rfl
      clear hc HH HS
      obtain ⟨M, hM⟩ : ∃ M, M = L - n - totC S k := ⟨_, rfl⟩
      rw [← hM]
      generalize S.getD k raw0 = x at c0 c1 c2 c3 c4 q2 HT ir iu hsz
      obtain ⟨xs, xr, xa, xc, xl, yr, ya, yc, yl⟩ := x
      have ew : wt ⟨xs, xr, xa, xc, xl, yr, ya, yc, yl⟩ = xs.size + rs xl + rs yl := rfl
      rw [ew] at q2 HT
      simp only at c0 c1 c2 c3 c4 ir iu hsz
      obtain ⟨M', hM'⟩ : ∃ M', xs.size + rs xl + rs yl + M' = M := ⟨M - (xs.size + rs xl + rs yl), by omega⟩
      have hhi : M ≤ 1048576 := by omega
      have hSz := szC_at xs xr yr xa ya xc yc M M' xl yl wr hsz ir iu hM' hhi
      have HM : Hid (M = L - n - totC S k) := hM
      have HM' : Hid (xs.size + rs xl + rs yl + M' = M) := hM'
      have HQ : Hid (totC S k + (xs.size + rs xl + rs yl) ≤ totC S n) := q2
      have hr' : Hid (n + totC S n + R = L) := hr
      clear hM hM' hr q1 q2
      have h0' : ¬ ((M' : Int) < 0) := by omega
      go_wp2_with (go_at_call 113; refine hSz.mono ?_; rintro e w1 ⟨rfl, hb⟩)
      go_roundw
      case rel => exact ⟨k + 1, by omega, by go_num, by have := HT.out; have := HM.out; have := HM'.out; have := HQ.out; have := hr'.out; congr 1; omega, Rw.next hbel hb⟩
      case measure => simp [intOf]; omega
    · have he : k = n := by omega
      subst he
      have hr := HR.out
      have e : L - k - totC S k = R := by omega
      rw [e]
      go_wp2
      go_ret
      exact ⟨rfl, hbel⟩

set_option maxHeartbeats 1000000 in
theorem szCs_big (a : Option Addr) (c L : Nat) (S : List Raw) (w : World) (h : IsDl w a S) (hR : L < S.length + totC S S.length) (hL : L ≤ 1048576) :
    Calls Tryz.prog 57 #[.slice a S.length c, .int .i64 L] w fun e w' => e = .returned (.int .i64 (-1)) ∧ Below w.heap.size w w' := by
  obtain ⟨hm, hs, h3⟩ := h
  obtain ⟨n, hn⟩ : ∃ n, n = S.length := ⟨_, rfl⟩
  rw [← hn] at hm hs h3 hR ⊢
  by_cases hnL : n ≤ L
  · have h0 : ¬ ((L : Int) - (n : Int) < 0) := by omega
    have HR : Hid (L < n + totC S n) := hR
    have HH : Hid (n = 0 ∨ ∃ b off, a = some ⟨b, off, none⟩ ∧ ∀ i, i < n → At5 w b off i (S.getD i raw0).s (S.getD i raw0).ar (.slice (S.getD i raw0).a (S.getD i raw0).S.length (S.getD i raw0).c) (S.getD i raw0).br (.slice (S.getD i raw0).d (S.getD i raw0).U.length (S.getD i raw0).e)) := h3
    have HS : Hid (∀ i, i < n → (S.getD i raw0).s.size ≤ maxLen ∧ Rl.IsRel w (S.getD i raw0).a (S.getD i raw0).S ∧ Rl.IsRel w (S.getD i raw0).d (S.getD i raw0).U) := hs
    clear hn hR hs h3
    go_enter Tryz.func57, Tryz.ntmps57
    go_wp2
    go_loopw [1, 5] (fun u i wr => ∃ k : Nat, k ≤ n ∧ i = .int .i64 k ∧ u = .int .i64 ((L - n - totC S k : Nat) : Int) ∧ totC S k ≤ L - n ∧ Below w.heap.size w wr) (fun _ i _ => n - (intOf i).toNat)
    case atStart => exact ⟨0, Nat.zero_le _, rfl, by simp only [totC]; congr 1; omega, by simp [totC], Below.refl _ _⟩
    case round =>
      obtain ⟨k, hk, rfl, rfl, htk, hbel⟩ := hrel
      have hlt : k < n := by
        have := HR.out
        rcases Nat.lt_or_ge k n with h | h
        · exact h
        · have : k = n := by omega
          subst this; omega
      obtain ⟨b, off, rfl, hc⟩ := HH.out.resolve_left (by omega)
      have hkz : (k : Int) < (n : Int) := by omega
      obtain ⟨c0, c1, c2, c3, c4⟩ := (hc k hlt).of hbel (hc k hlt).lt
      obtain ⟨hsz, ir0, iu0⟩ := HS.out k hlt
      have ir := ir0.below hbel
      have iu := iu0.below hbel
      clear ir0 iu0
      have HT : Hid (totC S (k + 1) = totC S k + wt (S.getD k raw0)) := rfl
      clear hc HH HS
      obtain ⟨M, hM⟩ : ∃ M, M = L - n - totC S k := ⟨_, rfl⟩
      rw [← hM]
      generalize S.getD k raw0 = x at c0 c1 c2 c3 c4 HT ir iu hsz
      obtain ⟨xs, xr, xa, xc, xl, yr, ya, yc, yl⟩ := x
      have ew : wt ⟨xs, xr, xa, xc, xl, yr, ya, yc, yl⟩ = xs.size + rs xl + rs yl := rfl
      rw [ew] at HT
      simp only at c0 c1 c2 c3 c4 ir iu hsz
      have hhi : M ≤ 1048576 := by omega
      have HM : Hid (M = L - n - totC S k) := hM
      have HK : Hid (totC S k ≤ L - n) := htk
      clear hM htk
      by_cases hlo : xs.size + rs xl + rs yl ≤ M
      · obtain ⟨M', hM'⟩ : ∃ M', xs.size + rs xl + rs yl + M' = M := ⟨M - (xs.size + rs xl + rs yl), by omega⟩
        have hSz := szC_at xs xr yr xa ya xc yc M M' xl yl wr hsz ir iu hM' hhi
        have HM' : Hid (xs.size + rs xl + rs yl + M' = M) := hM'
        clear hM' hlo
        have h0' : ¬ ((M' : Int) < 0) := by omega
        go_wp2_with (go_at_call 113; refine hSz.mono ?_; rintro e w1 ⟨rfl, hb⟩)
        go_roundw
        case rel => exact ⟨k + 1, by omega, by go_num, by have := HT.out; have := HM.out; have := HK.out; have := HM'.out; congr 1; omega, by have := HT.out; have := HM.out; have := HK.out; have := HM'.out; omega, Rw.next hbel hb⟩
        case measure => simp [intOf]; omega
      · have hSz := szC_big xs xr yr xa ya xc yc M xl yl wr hsz ir iu (by omega) hhi
        clear hlo
        go_wp2_with (go_at_call 113; refine hSz.mono ?_; rintro e w1 ⟨rfl, hb⟩)
        go_ret
        exact ⟨rfl, Rw.next hbel hb⟩
  · unfold maxLen at hm
    have h0 : (L : Int) - (n : Int) < 0 := by omega
    go_enter Tryz.func57, Tryz.ntmps57
    go_wp2
    go_ret
    exact ⟨rfl, Below.refl _ _⟩

theorem szDl_at (a : Option Addr) (c L R : Nat) (S : List Raw) (w : World) (h : IsDl w a S) (hR : S.length + totC S S.length + R = L) (hL : L ≤ 1048576) :
    Calls Tryz.prog 18 #[.agg #[.slice a S.length c], .int .i64 L] w fun e w' => e = .returned (.int .i64 R) ∧ Below w.heap.size w w' := by
  have B := below_alloc1 w (.cells #[.slice a S.length c] 47)
  have h0 : ¬ ((R : Int) < 0) := by omega
  have hc := szCs_at a c L R S _ (h.below B) hR hL
  go_enter Tryz.func18, Tryz.ntmps18
  go_wp2_with (go_at_call 57; refine hc.mono ?_; rintro e w1 ⟨rfl, hb⟩)
  go_ret
  exact ⟨rfl, Rw.next B hb⟩
theorem szDl_big (a : Option Addr) (c L : Nat) (S : List Raw) (w : World) (h : IsDl w a S) (hR : L < S.length + totC S S.length) (hL : L ≤ 1048576) :
    Calls Tryz.prog 18 #[.agg #[.slice a S.length c], .int .i64 L] w fun e w' => e = .returned (.int .i64 (-1)) ∧ Below w.heap.size w w' := by
  have B := below_alloc1 w (.cells #[.slice a S.length c] 47)
  have hc := szCs_big a c L S _ (h.below B) hR hL
  go_enter Tryz.func18, Tryz.ntmps18
  go_wp2_with (go_at_call 57; refine hc.mono ?_; rintro e w1 ⟨rfl, hb⟩)
  go_ret
  exact ⟨rfl, Rw.next B hb⟩

end Go.Proofs.YtkpchlojapkimaaGreat.Ch
