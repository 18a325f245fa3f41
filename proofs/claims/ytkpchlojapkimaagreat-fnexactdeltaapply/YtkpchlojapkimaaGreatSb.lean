/-
  Sizes of stores.
-/
import Derived.Test.YtkpchlojapkimaaGreatSa
namespace Go.Proofs.YtkpchlojapkimaaGreat.St
set_option maxRecDepth 8000
set_option linter.unusedSimpArgs false
set_option linter.unusedVariables false
open Go Go.ChangeShapes Go.WideShapes Go.RowKit
open Num Word Pl Rp
open Rl (Rm rm0 said)

theorem three {w : World} {g : Nat} {u v x : Value} {t : TypeId} (h : w.heap[g]? = some (.cells #[u, v, x] t (0, 0))) : w.cell? ⟨g, 0, none⟩ = some u ∧ w.cell? ⟨g, 1, none⟩ = some v ∧ w.cell? ⟨g, 2, none⟩ = some x := by
  refine ⟨?_, ?_, ?_⟩ <;> simp [World.cell?, h]

set_option maxHeartbeats 1000000 in
theorem szN_at (s : ByteArray) (ar : Int) (a : Option Addr) (c L R : Nat) (S : List Rl.Raw) (w : World) (hs : s.size ≤ maxLen) (h : Rl.IsRel w a S) (hR : s.size + (S.length + Rl.totR S S.length) + R = L) (hL : L ≤ 1048576) :
    Calls Tryz.prog 112 #[.agg #[.string s, .int .i64 ar, .slice a S.length c], .int .i64 L] w fun e w' => e = .returned (.int .i64 R) ∧ Below w.heap.size w w' := by
  have B := below_alloc1 w (.cells #[.string s, .int .i64 ar, .slice a S.length c] 157)
  obtain ⟨M, hM⟩ : ∃ M, s.size + M = L := ⟨L - s.size, by omega⟩
  have h0 : ¬ ((L : Int) - (s.size : Int) < 0) := by omega
  have eM : (L : Int) - (s.size : Int) = (M : Int) := by omega
  have h1 : ¬ ((R : Int) < 0) := by omega
  have hc := Rl.szL_at ar a c M R S _ (h.below B) (by omega) (by omega)
  rw [← eM] at hc
  have HL : Hid (L ≤ 1048576) := hL
  have hlo : s.size ≤ L := by omega
  clear hR hM eM
  go_enter Tryz.func112, Tryz.ntmps112
  go_wp2_with (go_at_call 145; refine hc.mono ?_; rintro e w1 ⟨rfl, hb⟩)
  go_ret
  exact ⟨rfl, Rw.next B hb⟩
set_option maxHeartbeats 1000000 in
theorem szN_big (s : ByteArray) (ar : Int) (a : Option Addr) (c L : Nat) (S : List Rl.Raw) (w : World) (hs : s.size ≤ maxLen) (h : Rl.IsRel w a S) (hR : L < s.size + (S.length + Rl.totR S S.length)) (hL : L ≤ 1048576) :
    Calls Tryz.prog 112 #[.agg #[.string s, .int .i64 ar, .slice a S.length c], .int .i64 L] w fun e w' => e = .returned (.int .i64 (-1)) ∧ Below w.heap.size w w' := by
  have B := below_alloc1 w (.cells #[.string s, .int .i64 ar, .slice a S.length c] 157)
  by_cases hlo : s.size ≤ L
  · obtain ⟨M, hM⟩ : ∃ M, s.size + M = L := ⟨L - s.size, by omega⟩
    have h0 : ¬ ((L : Int) - (s.size : Int) < 0) := by omega
    have eM : (L : Int) - (s.size : Int) = (M : Int) := by omega
    have hc := Rl.szL_big ar a c M S _ (h.below B) (by omega) (by omega)
    rw [← eM] at hc
    clear hR hM eM
    go_enter Tryz.func112, Tryz.ntmps112
    go_wp2_with (go_at_call 145; refine hc.mono ?_; rintro e w1 ⟨rfl, hb⟩)
    go_ret
    exact ⟨rfl, Rw.next B hb⟩
  · unfold maxLen at hs
    have h0 : (L : Int) - (s.size : Int) < 0 := by omega
    clear hR
    go_enter Tryz.func112, Tryz.ntmps112
    go_wp2
    go_ret
    exact ⟨rfl, B⟩

set_option maxHeartbeats 1000000 in
theorem szNs_at (a : Option Addr) (c L R : Nat) (S : List Raw) (w : World) (h : IsSt w a S) (hR : S.length + totN S S.length + R = L) (hL : L ≤ 1048576) :
    Calls Tryz.prog 56 #[.slice a S.length c, .int .i64 L] w fun e w' => e = .returned (.int .i64 R) ∧ Below w.heap.size w w' := by
  obtain ⟨hm, hs, h3⟩ := h
  obtain ⟨n, hn⟩ : ∃ n, n = S.length := ⟨_, rfl⟩
  rw [← hn] at hm hs h3 hR ⊢
  have h0 : ¬ ((L : Int) - (n : Int) < 0) := by omega
  have HR : Hid (n + totN S n + R = L) := hR
  have HH : Hid (n = 0 ∨ ∃ b off, a = some ⟨b, off, none⟩ ∧ ∀ i, i < n → At3 w b off i (S.getD i raw0).s (S.getD i raw0).ar (.slice (S.getD i raw0).a (S.getD i raw0).S.length (S.getD i raw0).c)) := h3
  have HS : Hid (∀ i, i < n → (S.getD i raw0).s.size ≤ maxLen ∧ Rl.IsRel w (S.getD i raw0).a (S.getD i raw0).S) := hs
  have hnL : n ≤ L := by omega
  clear hn hR hs h3
  go_enter Tryz.func56, Tryz.ntmps56
  go_wp2
  go_loopw [1, 5] (fun u i wr => ∃ k : Nat, k ≤ n ∧ i = .int .i64 k ∧ u = .int .i64 ((L - n - totN S k : Nat) : Int) ∧ Below w.heap.size w wr) (fun _ i _ => n - (intOf i).toNat)
  case atStart => exact ⟨0, Nat.zero_le _, rfl, by simp only [totN]; congr 1; omega, Below.refl _ _⟩
  case round =>
    obtain ⟨k, hk, rfl, rfl, hbel⟩ := hrel
    have q1 := totN_mono S hk
    by_cases hlt : k < n
    · have q2 := totN_mono S (i := k + 1) (j := n) hlt
      simp only [totN] at q2
      obtain ⟨b, off, rfl, hc⟩ := HH.out.resolve_left (by omega)
      have hkz : (k : Int) < (n : Int) := by omega
      obtain ⟨c0, c1, c2⟩ := (hc k hlt).of hbel (hc k hlt).lt
      obtain ⟨hsz, ir0⟩ := HS.out k hlt
      have ir := ir0.below hbel
      clear ir0
      have hr := HR.out
      have HT : Hid (totN S (k + 1) = totN S k + wt (S.getD k raw0)) := rfl
      clear hc HH HS
      obtain ⟨M, hM⟩ : ∃ M, M = L - n - totN S k := ⟨_, rfl⟩
      rw [← hM]
      generalize S.getD k raw0 = x at c0 c1 c2 q2 HT ir hsz
      obtain ⟨xs, xr, xa, xc, xl⟩ := x
      simp only [wt] at c0 c1 c2 q2 HT ir hsz
      obtain ⟨M', hM'⟩ : ∃ M', xs.size + (xl.length + Rl.totR xl xl.length) + M' = M := ⟨M - (xs.size + (xl.length + Rl.totR xl xl.length)), by omega⟩
      have hhi : M ≤ 1048576 := by omega
      have hSz := szN_at xs xr xa xc M M' xl wr hsz ir hM' hhi
      have HM : Hid (M = L - n - totN S k) := hM
      have HM' : Hid (xs.size + (xl.length + Rl.totR xl xl.length) + M' = M) := hM'
      have HQ : Hid (totN S k + (xs.size + (xl.length + Rl.totR xl xl.length)) ≤ totN S n) := q2
      have hr' : Hid (n + totN S n + R = L) := hr
      clear hM hM' hr q1 q2
      have h0' : ¬ ((M' : Int) < 0) := by omega
      go_wp2_with (go_at_call 112; refine hSz.mono ?_; rintro e w1 ⟨rfl, hb⟩)
      go_roundw
      case rel => exact ⟨k + 1, by omega, by go_num, by have := HT.out; have := HM.out; have := HM'.out; have := HQ.out; have := hr'.out; congr 1; omega, Rw.next hbel hb⟩
      case measure => simp [intOf]; omega
    · have he : k = n := by omega
      subst he
      have hr := HR.out
      have e : L - k - totN S k = R := by omega
      rw [e]
      go_wp2
      go_ret
      exact ⟨rfl, hbel⟩

set_option maxHeartbeats 1000000 in
theorem szNs_big (a : Option Addr) (c L : Nat) (S : List Raw) (w : World) (h : IsSt w a S) (hR : L < S.length + totN S S.length) (hL : L ≤ 1048576) :
    Calls Tryz.prog 56 #[.slice a S.length c, .int .i64 L] w fun e w' => e = .returned (.int .i64 (-1)) ∧ Below w.heap.size w w' := by
  obtain ⟨hm, hs, h3⟩ := h
  obtain ⟨n, hn⟩ : ∃ n, n = S.length := ⟨_, rfl⟩
  rw [← hn] at hm hs h3 hR ⊢
  by_cases hnL : n ≤ L
  · have h0 : ¬ ((L : Int) - (n : Int) < 0) := by omega
    have HR : Hid (L < n + totN S n) := hR
    have HH : Hid (n = 0 ∨ ∃ b off, a = some ⟨b, off, none⟩ ∧ ∀ i, i < n → At3 w b off i (S.getD i raw0).s (S.getD i raw0).ar (.slice (S.getD i raw0).a (S.getD i raw0).S.length (S.getD i raw0).c)) := h3
    have HS : Hid (∀ i, i < n → (S.getD i raw0).s.size ≤ maxLen ∧ Rl.IsRel w (S.getD i raw0).a (S.getD i raw0).S) := hs
    clear hn hR hs h3
    go_enter Tryz.func56, Tryz.ntmps56
    go_wp2
    go_loopw [1, 5] (fun u i wr => ∃ k : Nat, k ≤ n ∧ i = .int .i64 k ∧ u = .int .i64 ((L - n - totN S k : Nat) : Int) ∧ totN S k ≤ L - n ∧ Below w.heap.size w wr) (fun _ i _ => n - (intOf i).toNat)
    case atStart => exact ⟨0, Nat.zero_le _, rfl, by simp only [totN]; congr 1; omega, by simp [totN], Below.refl _ _⟩
    case round =>
      obtain ⟨k, hk, rfl, rfl, htk, hbel⟩ := hrel
      have hlt : k < n := by
        have := HR.out
        rcases Nat.lt_or_ge k n with h | h
        · exact h
        · have : k = n := by omega
          subst this; omega
      obtain ⟨b, off, rfl, hc⟩ := HH.out.resolve_left (by omega)
      have hkz : (k : Int) < (n : Int) := by omega
      obtain ⟨c0, c1, c2⟩ := (hc k hlt).of hbel (hc k hlt).lt
      obtain ⟨hsz, ir0⟩ := HS.out k hlt
      have ir := ir0.below hbel
      clear ir0
      have HT : Hid (totN S (k + 1) = totN S k + wt (S.getD k raw0)) := rfl
      clear hc HH HS
      obtain ⟨M, hM⟩ : ∃ M, M = L - n - totN S k := ⟨_, rfl⟩
      rw [← hM]
      generalize S.getD k raw0 = x at c0 c1 c2 HT ir hsz
      obtain ⟨xs, xr, xa, xc, xl⟩ := x
      simp only [wt] at c0 c1 c2 HT ir hsz
      have hhi : M ≤ 1048576 := by omega
      have HM : Hid (M = L - n - totN S k) := hM
      have HK : Hid (totN S k ≤ L - n) := htk
      clear hM htk
      by_cases hlo : xs.size + (xl.length + Rl.totR xl xl.length) ≤ M
      · obtain ⟨M', hM'⟩ : ∃ M', xs.size + (xl.length + Rl.totR xl xl.length) + M' = M := ⟨M - (xs.size + (xl.length + Rl.totR xl xl.length)), by omega⟩
        have hSz := szN_at xs xr xa xc M M' xl wr hsz ir hM' hhi
        have HM' : Hid (xs.size + (xl.length + Rl.totR xl xl.length) + M' = M) := hM'
        clear hM' hlo
        have h0' : ¬ ((M' : Int) < 0) := by omega
        go_wp2_with (go_at_call 112; refine hSz.mono ?_; rintro e w1 ⟨rfl, hb⟩)
        go_roundw
        case rel => exact ⟨k + 1, by omega, by go_num, by have := HT.out; have := HM.out; have := HK.out; have := HM'.out; congr 1; omega, by have := HT.out; have := HM.out; have := HK.out; have := HM'.out; omega, Rw.next hbel hb⟩
        case measure => simp [intOf]; omega
      · have hSz := szN_big xs xr xa xc M xl wr hsz ir (by omega) hhi
        clear hlo
        go_wp2_with (go_at_call 112; refine hSz.mono ?_; rintro e w1 ⟨rfl, hb⟩)
        go_ret
        exact ⟨rfl, Rw.next hbel hb⟩
  · unfold maxLen at hm
    have h0 : (L : Int) - (n : Int) < 0 := by omega
    go_enter Tryz.func56, Tryz.ntmps56
    go_wp2
    go_ret
    exact ⟨rfl, Below.refl _ _⟩

theorem szSt_at (a : Option Addr) (c L R : Nat) (S : List Raw) (w : World) (h : IsSt w a S) (hR : S.length + totN S S.length + R = L) (hL : L ≤ 1048576) :
    Calls Tryz.prog 17 #[.agg #[.slice a S.length c], .int .i64 L] w fun e w' => e = .returned (.int .i64 R) ∧ Below w.heap.size w w' := by
  have B := below_alloc1 w (.cells #[.slice a S.length c] 44)
  have h0 : ¬ ((R : Int) < 0) := by omega
  have hc := szNs_at a c L R S _ (h.below B) hR hL
  go_enter Tryz.func17, Tryz.ntmps17
  go_wp2_with (go_at_call 56; refine hc.mono ?_; rintro e w1 ⟨rfl, hb⟩)
  go_ret
  exact ⟨rfl, Rw.next B hb⟩
theorem szSt_big (a : Option Addr) (c L : Nat) (S : List Raw) (w : World) (h : IsSt w a S) (hR : L < S.length + totN S S.length) (hL : L ≤ 1048576) :
    Calls Tryz.prog 17 #[.agg #[.slice a S.length c], .int .i64 L] w fun e w' => e = .returned (.int .i64 (-1)) ∧ Below w.heap.size w w' := by
  have B := below_alloc1 w (.cells #[.slice a S.length c] 44)
  have hc := szNs_big a c L S _ (h.below B) hR hL
  go_enter Tryz.func17, Tryz.ntmps17
  go_wp2_with (go_at_call 56; refine hc.mono ?_; rintro e w1 ⟨rfl, hb⟩)
  go_ret
  exact ⟨rfl, Rw.next B hb⟩

end Go.Proofs.YtkpchlojapkimaaGreat.St
