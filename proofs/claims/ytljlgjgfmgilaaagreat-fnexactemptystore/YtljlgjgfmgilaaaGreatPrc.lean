/-
  Sizes of programs and their parts.
-/
import Derived.Test.YtljlgjgfmgilaaaGreatPrb
import Derived.Handy
namespace Go.Proofs.YtljlgjgfmgilaaaGreat.Pm
set_option maxRecDepth 8000
set_option linter.unusedSimpArgs false
set_option linter.unusedVariables false
open Go Go.ChangeShapes Go.WideShapes Go.RowKit
open Num Pl

/-- The function tells of the value how much of a number is left behind its weight, -1 where it is too heavy. -/
def Sized (f : FuncId) (v : Value) (k : Nat) (w : World) : Prop :=
  (∀ (L R : Nat) (W : World), Below w.heap.size w W → k + R = L → L ≤ 1048576 → Calls Tryz.prog f #[v, .int .i64 L] W fun e w' => e = .returned (.int .i64 R) ∧ Below W.heap.size W w') ∧
  (∀ (L : Nat) (W : World), Below w.heap.size w W → L < k → L ≤ 1048576 → Calls Tryz.prog f #[v, .int .i64 L] W fun e w' => e = .returned (.int .i64 (-1)) ∧ Below W.heap.size W w')
theorem blk_cell {w : World} {g : Nat} {cs : Array Value} {t : TypeId} {u : Value} (h : w.heap[g]? = some (.cells cs t (0, 0))) (j : Nat) (hj : cs[j]? = some u) : w.cell? ⟨g, j, none⟩ = some u := by simp [World.cell?, h, hj]
theorem Sized.below {f : FuncId} {v : Value} {k : Nat} {w w' : World} (h : Sized f v k w) (hb : Below w.heap.size w w') : Sized f v k w' :=
  ⟨fun L R W h1 h2 h3 => h.1 L R W (Rw.next hb h1) h2 h3, fun L W h1 h2 h3 => h.2 L W (Rw.next hb h1) h2 h3⟩

set_option maxHeartbeats 1000000 in
theorem szV_any (n : Int) (s : ByteArray) (w : World) (hs : s.size ≤ maxLen) : Sized 154 (.agg #[.int .i64 n, .string s]) s.size w := by
  refine ⟨fun L R W _ hR hL => ?_, fun L W _ hR hL => ?_⟩
  · have h0 : ¬ ((L : Int) - (s.size : Int) < 0) := by omega
    have e : (R : Int) = (L : Int) - (s.size : Int) := by omega
    rw [e]
    clear e hR
    go_enter Tryz.func154, Tryz.ntmps154
    go_wp2
    go_ret
    exact ⟨rfl, below_alloc1 _ _⟩
  · unfold maxLen at hs
    have h0 : (L : Int) - (s.size : Int) < 0 := by omega
    go_enter Tryz.func154, Tryz.ntmps154
    go_wp2
    go_ret
    exact ⟨rfl, below_alloc1 _ _⟩
set_option maxHeartbeats 2000000 in
theorem szTm_any (x : Tm) (w : World) (h : x.Ok) : Sized 134 (.agg #[.string x.v, .int .i64 x.n, .string x.s]) (x.wt) w := by
  have hs0 : x.v.size ≤ maxLen := h.1
  have hp1 : Sized 154 (.agg #[.int .i64 x.n, .string x.s]) (x.s.size) w := szV_any _ _ w h.2
  have hw : x.wt = (x.v.size) + (x.s.size) := rfl
  rw [hw]
  clear hw
  generalize x.s.size = k1 at hp1 ⊢
  refine ⟨fun L R W hbW hR hL => ?_, fun L W hbW hR hL => ?_⟩
  · obtain ⟨M1, hM1⟩ : ∃ M, x.v.size + M = L := ⟨L - x.v.size, by omega⟩
    have hlo0 : x.v.size ≤ L := by omega
    have hhi0 : L ≤ 1048576 := by omega
    have h0 : ¬ ((L : Int) - (x.v.size : Int) < 0) := by omega
    have E0 : (L : Int) - (x.v.size : Int) = (M1 : Int) := by omega
    have h1 : ¬ ((R : Int) < 0) := by omega
    have hq1 := fun U hb => hp1.1 M1 R U hb (by omega) (by omega)
    rw [← E0] at hq1
    have B : Below w.heap.size w (W.alloc (.cells #[.string x.v, .int .i64 x.n, .string x.s] 154)) := Rw.next hbW (below_alloc1 _ _)
    have D : Below W.heap.size W (W.alloc (.cells #[.string x.v, .int .i64 x.n, .string x.s] 154)) := below_alloc1 _ _
    have t1 : True := trivial
    clear hbW hR hL hM1 E0 hp1
    go_enter Tryz.func134, Tryz.ntmps134
    go_wp2_with (first | (clear t1; go_at_call 154; refine (hq1 _ B).mono ?_; rintro e w1 ⟨rfl, hb⟩; replace B := Rw.next B hb; replace D := Rw.next D hb))
    go_ret
    exact ⟨rfl, D⟩
  · by_cases hx0 : L < x.v.size
    · have hhi0 : L ≤ 1048576 := by omega
      have h0 : (L : Int) - (x.v.size : Int) < 0 := by omega
      unfold maxLen at hs0
      have B : Below w.heap.size w (W.alloc (.cells #[.string x.v, .int .i64 x.n, .string x.s] 154)) := Rw.next hbW (below_alloc1 _ _)
      have D : Below W.heap.size W (W.alloc (.cells #[.string x.v, .int .i64 x.n, .string x.s] 154)) := below_alloc1 _ _
      clear hbW hR hL hp1 hx0
      go_enter Tryz.func134, Tryz.ntmps134
      go_wp2
      go_ret
      exact ⟨rfl, D⟩
    have hx1 : L < x.v.size + k1 := hR
    obtain ⟨M1, hM1⟩ : ∃ M, x.v.size + M = L := ⟨L - x.v.size, by omega⟩
    have hlo0 : x.v.size ≤ L := by omega
    have hhi0 : L ≤ 1048576 := by omega
    have h0 : ¬ ((L : Int) - (x.v.size : Int) < 0) := by omega
    have E0 : (L : Int) - (x.v.size : Int) = (M1 : Int) := by omega
    have hq1 := fun U hb => hp1.2 M1 U hb (by omega) (by omega)
    rw [← E0] at hq1
    have B : Below w.heap.size w (W.alloc (.cells #[.string x.v, .int .i64 x.n, .string x.s] 154)) := Rw.next hbW (below_alloc1 _ _)
    have D : Below W.heap.size W (W.alloc (.cells #[.string x.v, .int .i64 x.n, .string x.s] 154)) := below_alloc1 _ _
    have t1 : True := trivial
    clear hbW hR hL hM1 E0 hp1 hx0 hx1
    go_enter Tryz.func134, Tryz.ntmps134
    go_wp2_with (first | (clear t1; go_at_call 154; refine (hq1 _ B).mono ?_; rintro e w1 ⟨rfl, hb⟩; replace B := Rw.next B hb; replace D := Rw.next D hb))
    go_ret
    exact ⟨rfl, D⟩
set_option maxHeartbeats 2000000 in
theorem szTms_any (s : Sl Tm) (w : World) (h : Rd kdTm 0 w s) : Sized 104 (.slice s.a s.Q.length s.c) (wtS kdTm s.Q) w := by
  have HE : Hid (∀ i, i < s.Q.length → ∀ x, x = s.Q.getD i tm0 → Sized 134 (.agg #[.string x.v, .int .i64 x.n, .string x.s]) (x.wt) w) := fun i hi x hx => by rw [hx]; exact szTm_any _ w (h.ok i hi)
  obtain ⟨sa, sb, so, sc, sQ⟩ := s
  simp only at HE ⊢
  refine ⟨fun L R W hbW hR hL => ?_, fun L W hbW hR hL => ?_⟩
  · have h2 := h.keep (fun z _ hz => hbW.block z hz)
    have HR : Hid (wtS kdTm sQ + R = L) := hR
    obtain ⟨n, hn⟩ : ∃ n, n = sQ.length := ⟨_, rfl⟩
    have ew : wtS kdTm sQ = n + tot kdTm sQ n := by unfold wtS; rw [hn]
    have hm := h2.len
    rw [← hn] at HE hm ⊢
    have h0 : ¬ ((L : Int) - (n : Int) < 0) := by omega
    have HN : Hid (n = sQ.length) := hn
    have EW : Hid (wtS kdTm sQ = n + tot kdTm sQ n) := ew
    have hnL : n ≤ L := by omega
    clear hn hR h ew
    go_enter Tryz.func104, Tryz.ntmps104
    go_wp2
    go_loopw [1, 5] (fun u i wr => ∃ k : Nat, k ≤ n ∧ i = .int .i64 k ∧ u = .int .i64 ((L - n - tot kdTm sQ k : Nat) : Int) ∧ Below W.heap.size W wr) (fun _ i _ => n - (intOf i).toNat)
    case atStart => exact ⟨0, Nat.zero_le _, rfl, by simp only [tot]; congr 1; omega, Below.refl _ _⟩
    case round =>
      obtain ⟨k, hk, rfl, rfl, hbel⟩ := hrel
      have q1 := tot_mono (K := kdTm) sQ hk
      have hr := HR.out
      have ew := EW.out
      by_cases hlt : k < n
      · have hlQ : k < sQ.length := by have := HN.out; omega
        have q2 := tot_mono (K := kdTm) sQ (i := k + 1) (j := n) hlt
        simp only [tot] at q2
        change tot kdTm sQ k + (sQ.getD k tm0).wt ≤ tot kdTm sQ n at q2
        have hh := h2.head (by simp only; omega)
        have hkz : (k : Int) < (n : Int) := by omega
        obtain ⟨c0, c1, c2⟩ := cellsTm (h2.below hbel) hlQ
        have hS := HE.out k hlt _ rfl
        have HT : Hid (tot kdTm sQ (k + 1) = tot kdTm sQ k + (sQ.getD k tm0).wt) := rfl
        obtain ⟨M, hM⟩ : ∃ M, M = L - n - tot kdTm sQ k := ⟨_, rfl⟩
        rw [← hM]
        try simp only at hh c0 c1 c2
        obtain rfl := hh
        clear h2 HE
        generalize sQ.getD k tm0 = x at c0 c1 c2 q2 HT hS
        try simp only at c0 c1 c2 q2 hS
        obtain ⟨M', hM'⟩ : ∃ M', x.wt + M' = M := ⟨M - x.wt, by omega⟩
        have hSz := fun U hb => hS.1 M M' U hb hM' (by omega)
        have HM : Hid (M = L - n - tot kdTm sQ k) := hM
        have HM' : Hid (x.wt + M' = M) := hM'
        have HQ : Hid (tot kdTm sQ k + x.wt ≤ tot kdTm sQ n) := q2
        have hr' : Hid (wtS kdTm sQ + R = L) := hr
        have ew' : Hid (wtS kdTm sQ = n + tot kdTm sQ n) := ew
        clear hM hM' hr q1 q2 hS ew
        have h0' : ¬ ((M' : Int) < 0) := by omega
        go_wp2_with (go_at_call 134; refine (hSz _ (Rw.next hbW hbel)).mono ?_; rintro e w1 ⟨rfl, hb⟩)
        go_roundw
        case rel => exact ⟨k + 1, by omega, by go_num, by have := HT.out; have := HM.out; have := HM'.out; have := HQ.out; have := hr'.out; congr 1; omega, Rw.next hbel hb⟩
        case measure => simp [intOf]; omega
      · have he : k = n := by omega
        subst he
        have e : L - k - tot kdTm sQ k = R := by omega
        rw [e]
        clear e hr ew q1
        go_wp2
        go_ret
        exact ⟨rfl, hbel⟩
  · have h2 := h.keep (fun z _ hz => hbW.block z hz)
    obtain ⟨n, hn⟩ : ∃ n, n = sQ.length := ⟨_, rfl⟩
    have ew : wtS kdTm sQ = n + tot kdTm sQ n := by unfold wtS; rw [hn]
    have hm := h2.len
    rw [← hn] at HE hm ⊢
    by_cases hnL : n ≤ L
    · have h0 : ¬ ((L : Int) - (n : Int) < 0) := by omega
      have HR : Hid (L < wtS kdTm sQ) := hR
      have HN : Hid (n = sQ.length) := hn
      have EW : Hid (wtS kdTm sQ = n + tot kdTm sQ n) := ew
      clear hn hR h ew
      go_enter Tryz.func104, Tryz.ntmps104
      go_wp2
      go_loopw [1, 5] (fun u i wr => ∃ k : Nat, k ≤ n ∧ i = .int .i64 k ∧ u = .int .i64 ((L - n - tot kdTm sQ k : Nat) : Int) ∧ tot kdTm sQ k ≤ L - n ∧ Below W.heap.size W wr) (fun _ i _ => n - (intOf i).toNat)
      case atStart => exact ⟨0, Nat.zero_le _, rfl, by simp only [tot]; congr 1; omega, by simp [tot], Below.refl _ _⟩
      case round =>
        obtain ⟨k, hk, rfl, rfl, htk, hbel⟩ := hrel
        have hlt : k < n := by
          have := HR.out
          have := EW.out
          rcases Nat.lt_or_ge k n with h | h
          · exact h
          · have : k = n := by omega
            subst this; omega
        have hlQ : k < sQ.length := by have := HN.out; omega
        have hh := h2.head (by simp only; omega)
        have hkz : (k : Int) < (n : Int) := by omega
        obtain ⟨c0, c1, c2⟩ := cellsTm (h2.below hbel) hlQ
        have hS := HE.out k hlt _ rfl
        have HT : Hid (tot kdTm sQ (k + 1) = tot kdTm sQ k + (sQ.getD k tm0).wt) := rfl
        obtain ⟨M, hM⟩ : ∃ M, M = L - n - tot kdTm sQ k := ⟨_, rfl⟩
        rw [← hM]
        try simp only at hh c0 c1 c2
        obtain rfl := hh
        clear h2 HE
        generalize sQ.getD k tm0 = x at c0 c1 c2 HT hS
        try simp only at c0 c1 c2 hS
        have hhi : M ≤ 1048576 := by omega
        have HM : Hid (M = L - n - tot kdTm sQ k) := hM
        have HK : Hid (tot kdTm sQ k ≤ L - n) := htk
        clear hM htk
        by_cases hlo : x.wt ≤ M
        · obtain ⟨M', hM'⟩ : ∃ M', x.wt + M' = M := ⟨M - x.wt, by omega⟩
          have hSz := fun U hb => hS.1 M M' U hb hM' hhi
          have HM' : Hid (x.wt + M' = M) := hM'
          clear hM' hlo hS
          have h0' : ¬ ((M' : Int) < 0) := by omega
          go_wp2_with (go_at_call 134; refine (hSz _ (Rw.next hbW hbel)).mono ?_; rintro e w1 ⟨rfl, hb⟩)
          go_roundw
          case rel => exact ⟨k + 1, by omega, by go_num, by have := HT.out; have := HM.out; have := HK.out; have := HM'.out; congr 1; omega, by have := HT.out; have := HM.out; have := HK.out; have := HM'.out; omega, Rw.next hbel hb⟩
          case measure => simp [intOf]; omega
        · have hSz := fun U hb => hS.2 M U hb (by omega) hhi
          clear hlo hS
          go_wp2_with (go_at_call 134; refine (hSz _ (Rw.next hbW hbel)).mono ?_; rintro e w1 ⟨rfl, hb⟩)
          go_ret
          exact ⟨rfl, Rw.next hbel hb⟩
    · unfold maxLen at hm
      have h0 : (L : Int) - (n : Int) < 0 := by omega
      clear hn ew hR
      go_enter Tryz.func104, Tryz.ntmps104
      go_wp2
      go_ret
      exact ⟨rfl, Below.refl _ _⟩
set_option maxHeartbeats 2000000 in
theorem szDc_any (x : Dc) (w : World) (h : x.s.size ≤ maxLen) : Sized 36 (.agg #[.int .i64 x.k, .string x.s, .int .i64 x.ar]) (x.s.size) w := by
  have hs0 : x.s.size ≤ maxLen := h
  have hw : x.s.size = (x.s.size) := rfl
  rw [hw]
  clear hw
  refine ⟨fun L R W hbW hR hL => ?_, fun L W hbW hR hL => ?_⟩
  · have hlo0 : x.s.size ≤ L := by omega
    have hhi0 : L ≤ 1048576 := by omega
    have h0 : ¬ ((L : Int) - (x.s.size : Int) < 0) := by omega
    have E0 : (L : Int) - (x.s.size : Int) = (R : Int) := by omega
    rw [← E0]
    have B : Below w.heap.size w (W.alloc (.cells #[.int .i64 x.k, .string x.s, .int .i64 x.ar] 77)) := Rw.next hbW (below_alloc1 _ _)
    have D : Below W.heap.size W (W.alloc (.cells #[.int .i64 x.k, .string x.s, .int .i64 x.ar] 77)) := below_alloc1 _ _
    clear hbW hR hL E0
    go_enter Tryz.func36, Tryz.ntmps36
    go_wp2
    go_ret
    exact ⟨rfl, D⟩
  · have hx0 : L < x.s.size := hR
    have hhi0 : L ≤ 1048576 := by omega
    have h0 : (L : Int) - (x.s.size : Int) < 0 := by omega
    unfold maxLen at hs0
    have B : Below w.heap.size w (W.alloc (.cells #[.int .i64 x.k, .string x.s, .int .i64 x.ar] 77)) := Rw.next hbW (below_alloc1 _ _)
    have D : Below W.heap.size W (W.alloc (.cells #[.int .i64 x.k, .string x.s, .int .i64 x.ar] 77)) := below_alloc1 _ _
    clear hbW hR hL hx0
    go_enter Tryz.func36, Tryz.ntmps36
    go_wp2
    go_ret
    exact ⟨rfl, D⟩
set_option maxHeartbeats 2000000 in
theorem szDcs_any (s : Sl Dc) (w : World) (h : Rd kdDc 0 w s) : Sized 16 (.slice s.a s.Q.length s.c) (wtS kdDc s.Q) w := by
  have HE : Hid (∀ i, i < s.Q.length → ∀ x, x = s.Q.getD i dc0 → Sized 36 (.agg #[.int .i64 x.k, .string x.s, .int .i64 x.ar]) (x.s.size) w) := fun i hi x hx => by rw [hx]; exact szDc_any _ w (h.ok i hi)
  obtain ⟨sa, sb, so, sc, sQ⟩ := s
  simp only at HE ⊢
  refine ⟨fun L R W hbW hR hL => ?_, fun L W hbW hR hL => ?_⟩
  · have h2 := h.keep (fun z _ hz => hbW.block z hz)
    have HR : Hid (wtS kdDc sQ + R = L) := hR
    obtain ⟨n, hn⟩ : ∃ n, n = sQ.length := ⟨_, rfl⟩
    have ew : wtS kdDc sQ = n + tot kdDc sQ n := by unfold wtS; rw [hn]
    have hm := h2.len
    rw [← hn] at HE hm ⊢
    have h0 : ¬ ((L : Int) - (n : Int) < 0) := by omega
    have HN : Hid (n = sQ.length) := hn
    have EW : Hid (wtS kdDc sQ = n + tot kdDc sQ n) := ew
    have hnL : n ≤ L := by omega
    clear hn hR h ew
    go_enter Tryz.func16, Tryz.ntmps16
    go_wp2
    go_loopw [1, 5] (fun u i wr => ∃ k : Nat, k ≤ n ∧ i = .int .i64 k ∧ u = .int .i64 ((L - n - tot kdDc sQ k : Nat) : Int) ∧ Below W.heap.size W wr) (fun _ i _ => n - (intOf i).toNat)
    case atStart => exact ⟨0, Nat.zero_le _, rfl, by simp only [tot]; congr 1; omega, Below.refl _ _⟩
    case round =>
      obtain ⟨k, hk, rfl, rfl, hbel⟩ := hrel
      have q1 := tot_mono (K := kdDc) sQ hk
      have hr := HR.out
      have ew := EW.out
      by_cases hlt : k < n
      · have hlQ : k < sQ.length := by have := HN.out; omega
        have q2 := tot_mono (K := kdDc) sQ (i := k + 1) (j := n) hlt
        simp only [tot] at q2
        change tot kdDc sQ k + (sQ.getD k dc0).s.size ≤ tot kdDc sQ n at q2
        have hh := h2.head (by simp only; omega)
        have hkz : (k : Int) < (n : Int) := by omega
        obtain ⟨c0, c1, c2⟩ := cellsDc (h2.below hbel) hlQ
        have hS := HE.out k hlt _ rfl
        have HT : Hid (tot kdDc sQ (k + 1) = tot kdDc sQ k + (sQ.getD k dc0).s.size) := rfl
        obtain ⟨M, hM⟩ : ∃ M, M = L - n - tot kdDc sQ k := ⟨_, rfl⟩
        rw [← hM]
        try simp only at hh c0 c1 c2
        obtain rfl := hh
        clear h2 HE
        generalize sQ.getD k dc0 = x at c0 c1 c2 q2 HT hS
        try simp only at c0 c1 c2 q2 hS
        obtain ⟨M', hM'⟩ : ∃ M', x.s.size + M' = M := ⟨M - x.s.size, by omega⟩
        have hSz := fun U hb => hS.1 M M' U hb hM' (by omega)
        have HM : Hid (M = L - n - tot kdDc sQ k) := hM
        have HM' : Hid (x.s.size + M' = M) := hM'
        have HQ : Hid (tot kdDc sQ k + x.s.size ≤ tot kdDc sQ n) := q2
        have hr' : Hid (wtS kdDc sQ + R = L) := hr
        have ew' : Hid (wtS kdDc sQ = n + tot kdDc sQ n) := ew
        clear hM hM' hr q1 q2 hS ew
        have h0' : ¬ ((M' : Int) < 0) := by omega
        go_wp2_with (go_at_call 36; refine (hSz _ (Rw.next hbW hbel)).mono ?_; rintro e w1 ⟨rfl, hb⟩)
        go_roundw
        case rel => exact ⟨k + 1, by omega, by go_num, by have := HT.out; have := HM.out; have := HM'.out; have := HQ.out; have := hr'.out; congr 1; omega, Rw.next hbel hb⟩
        case measure => simp [intOf]; omega
      · have he : k = n := by omega
        subst he
        have e : L - k - tot kdDc sQ k = R := by omega
        rw [e]
        clear e hr ew q1
        go_wp2
        go_ret
        exact ⟨rfl, hbel⟩
  · have h2 := h.keep (fun z _ hz => hbW.block z hz)
    obtain ⟨n, hn⟩ : ∃ n, n = sQ.length := ⟨_, rfl⟩
    have ew : wtS kdDc sQ = n + tot kdDc sQ n := by unfold wtS; rw [hn]
    have hm := h2.len
    rw [← hn] at HE hm ⊢
    by_cases hnL : n ≤ L
    · have h0 : ¬ ((L : Int) - (n : Int) < 0) := by omega
      have HR : Hid (L < wtS kdDc sQ) := hR
      have HN : Hid (n = sQ.length) := hn
      have EW : Hid (wtS kdDc sQ = n + tot kdDc sQ n) := ew
      clear hn hR h ew
      go_enter Tryz.func16, Tryz.ntmps16
      go_wp2
      go_loopw [1, 5] (fun u i wr => ∃ k : Nat, k ≤ n ∧ i = .int .i64 k ∧ u = .int .i64 ((L - n - tot kdDc sQ k : Nat) : Int) ∧ tot kdDc sQ k ≤ L - n ∧ Below W.heap.size W wr) (fun _ i _ => n - (intOf i).toNat)
      case atStart => exact ⟨0, Nat.zero_le _, rfl, by simp only [tot]; congr 1; omega, by simp [tot], Below.refl _ _⟩
      case round =>
        obtain ⟨k, hk, rfl, rfl, htk, hbel⟩ := hrel
        have hlt : k < n := by
          have := HR.out
          have := EW.out
          rcases Nat.lt_or_ge k n with h | h
          · exact h
          · have : k = n := by omega
            subst this; omega
        have hlQ : k < sQ.length := by have := HN.out; omega
        have hh := h2.head (by simp only; omega)
        have hkz : (k : Int) < (n : Int) := by omega
        obtain ⟨c0, c1, c2⟩ := cellsDc (h2.below hbel) hlQ
        have hS := HE.out k hlt _ rfl
        have HT : Hid (tot kdDc sQ (k + 1) = tot kdDc sQ k + (sQ.getD k dc0).s.size) := rfl
        obtain ⟨M, hM⟩ : ∃ M, M = L - n - tot kdDc sQ k := ⟨_, rfl⟩
        rw [← hM]
        try simp only at hh c0 c1 c2
        obtain rfl := hh
        clear h2 HE
        generalize sQ.getD k dc0 = x at c0 c1 c2 HT hS
        try simp only at c0 c1 c2 hS
        have hhi : M ≤ 1048576 := by omega
        have HM : Hid (M = L - n - tot kdDc sQ k) := hM
        have HK : Hid (tot kdDc sQ k ≤ L - n) := htk
        clear hM htk
        by_cases hlo : x.s.size ≤ M
        · obtain ⟨M', hM'⟩ : ∃ M', x.s.size + M' = M := ⟨M - x.s.size, by omega⟩
          have hSz := fun U hb => hS.1 M M' U hb hM' hhi
          have HM' : Hid (x.s.size + M' = M) := hM'
          clear hM' hlo hS
          have h0' : ¬ ((M' : Int) < 0) := by omega
          go_wp2_with (go_at_call 36; refine (hSz _ (Rw.next hbW hbel)).mono ?_; rintro e w1 ⟨rfl, hb⟩)
          go_roundw
          case rel => exact ⟨k + 1, by omega, by go_num, by have := HT.out; have := HM.out; have := HK.out; have := HM'.out; congr 1; omega, by have := HT.out; have := HM.out; have := HK.out; have := HM'.out; omega, Rw.next hbel hb⟩
          case measure => simp [intOf]; omega
        · have hSz := fun U hb => hS.2 M U hb (by omega) hhi
          clear hlo hS
          go_wp2_with (go_at_call 36; refine (hSz _ (Rw.next hbW hbel)).mono ?_; rintro e w1 ⟨rfl, hb⟩)
          go_ret
          exact ⟨rfl, Rw.next hbel hb⟩
    · unfold maxLen at hm
      have h0 : (L : Int) - (n : Int) < 0 := by omega
      clear hn ew hR
      go_enter Tryz.func16, Tryz.ntmps16
      go_wp2
      go_ret
      exact ⟨rfl, Below.refl _ _⟩
set_option maxHeartbeats 2000000 in
theorem szAt_any (x : Atm) (w : World) (h : x.Ok 0 w) : Sized 71 (.agg #[.string x.s, .slice x.A.a x.A.Q.length x.A.c]) (x.wt) w := by
  have hs0 : x.s.size ≤ maxLen := h.1
  have hp1 : Sized 104 (.slice x.A.a x.A.Q.length x.A.c) (wtS kdTm x.A.Q) w := szTms_any _ w h.2
  have hw : x.wt = (x.s.size) + (wtS kdTm x.A.Q) := rfl
  rw [hw]
  clear hw
  generalize wtS kdTm x.A.Q = k1 at hp1 ⊢
  refine ⟨fun L R W hbW hR hL => ?_, fun L W hbW hR hL => ?_⟩
  · obtain ⟨M1, hM1⟩ : ∃ M, x.s.size + M = L := ⟨L - x.s.size, by omega⟩
    have hlo0 : x.s.size ≤ L := by omega
    have hhi0 : L ≤ 1048576 := by omega
    have h0 : ¬ ((L : Int) - (x.s.size : Int) < 0) := by omega
    have E0 : (L : Int) - (x.s.size : Int) = (M1 : Int) := by omega
    have h1 : ¬ ((R : Int) < 0) := by omega
    have hq1 := fun U hb => hp1.1 M1 R U hb (by omega) (by omega)
    rw [← E0] at hq1
    have B : Below w.heap.size w (W.alloc (.cells #[.string x.s, .slice x.A.a x.A.Q.length x.A.c] 81)) := Rw.next hbW (below_alloc1 _ _)
    have D : Below W.heap.size W (W.alloc (.cells #[.string x.s, .slice x.A.a x.A.Q.length x.A.c] 81)) := below_alloc1 _ _
    have t1 : True := trivial
    clear hbW hR hL hM1 E0 hp1
    go_enter Tryz.func71, Tryz.ntmps71
    go_wp2_with (first | (clear t1; go_at_call 104; refine (hq1 _ B).mono ?_; rintro e w1 ⟨rfl, hb⟩; replace B := Rw.next B hb; replace D := Rw.next D hb))
    go_ret
    exact ⟨rfl, D⟩
  · by_cases hx0 : L < x.s.size
    · have hhi0 : L ≤ 1048576 := by omega
      have h0 : (L : Int) - (x.s.size : Int) < 0 := by omega
      unfold maxLen at hs0
      have B : Below w.heap.size w (W.alloc (.cells #[.string x.s, .slice x.A.a x.A.Q.length x.A.c] 81)) := Rw.next hbW (below_alloc1 _ _)
      have D : Below W.heap.size W (W.alloc (.cells #[.string x.s, .slice x.A.a x.A.Q.length x.A.c] 81)) := below_alloc1 _ _
      clear hbW hR hL hp1 hx0
      go_enter Tryz.func71, Tryz.ntmps71
      go_wp2
      go_ret
      exact ⟨rfl, D⟩
    have hx1 : L < x.s.size + k1 := hR
    obtain ⟨M1, hM1⟩ : ∃ M, x.s.size + M = L := ⟨L - x.s.size, by omega⟩
    have hlo0 : x.s.size ≤ L := by omega
    have hhi0 : L ≤ 1048576 := by omega
    have h0 : ¬ ((L : Int) - (x.s.size : Int) < 0) := by omega
    have E0 : (L : Int) - (x.s.size : Int) = (M1 : Int) := by omega
    have hq1 := fun U hb => hp1.2 M1 U hb (by omega) (by omega)
    rw [← E0] at hq1
    have B : Below w.heap.size w (W.alloc (.cells #[.string x.s, .slice x.A.a x.A.Q.length x.A.c] 81)) := Rw.next hbW (below_alloc1 _ _)
    have D : Below W.heap.size W (W.alloc (.cells #[.string x.s, .slice x.A.a x.A.Q.length x.A.c] 81)) := below_alloc1 _ _
    have t1 : True := trivial
    clear hbW hR hL hM1 E0 hp1 hx0 hx1
    go_enter Tryz.func71, Tryz.ntmps71
    go_wp2_with (first | (clear t1; go_at_call 104; refine (hq1 _ B).mono ?_; rintro e w1 ⟨rfl, hb⟩; replace B := Rw.next B hb; replace D := Rw.next D hb))
    go_ret
    exact ⟨rfl, D⟩
set_option maxHeartbeats 2000000 in
theorem szLm_any (x : Lm) (w : World) (h : x.Ok 0 w) : Sized 105 (.agg #[.int .i64 x.k, .string x.h.s, .slice x.h.A.a x.h.A.Q.length x.h.A.c, .int .i64 x.op, .string x.p.v, .int .i64 x.p.n, .string x.p.s, .string x.q.v, .int .i64 x.q.n, .string x.q.s]) (x.wt) w := by
  have hp0 : Sized 71 (.agg #[.string x.h.s, .slice x.h.A.a x.h.A.Q.length x.h.A.c]) (x.h.wt) w := szAt_any _ w h.1
  have hp1 : Sized 134 (.agg #[.string x.p.v, .int .i64 x.p.n, .string x.p.s]) (x.p.wt) w := szTm_any _ w h.2.1
  have hp2 : Sized 134 (.agg #[.string x.q.v, .int .i64 x.q.n, .string x.q.s]) (x.q.wt) w := szTm_any _ w h.2.2
  have hw : x.wt = (x.h.wt) + (x.p.wt) + (x.q.wt) := rfl
  rw [hw]
  clear hw
  generalize x.h.wt = k0 at hp0 ⊢
  generalize x.p.wt = k1 at hp1 ⊢
  generalize x.q.wt = k2 at hp2 ⊢
  refine ⟨fun L R W hbW hR hL => ?_, fun L W hbW hR hL => ?_⟩
  · obtain ⟨M1, hM1⟩ : ∃ M, k0 + M = L := ⟨L - k0, by omega⟩
    have h0 : ¬ ((M1 : Int) < 0) := by omega
    have hq0 := fun U hb => hp0.1 L M1 U hb (by omega) (by omega)
    obtain ⟨M2, hM2⟩ : ∃ M, k1 + M = M1 := ⟨M1 - k1, by omega⟩
    have h1 : ¬ ((M2 : Int) < 0) := by omega
    have hq1 := fun U hb => hp1.1 M1 M2 U hb (by omega) (by omega)
    have h2 : ¬ ((R : Int) < 0) := by omega
    have hq2 := fun U hb => hp2.1 M2 R U hb (by omega) (by omega)
    have B : Below w.heap.size w (W.alloc (.cells #[.int .i64 x.k, .string x.h.s, .slice x.h.A.a x.h.A.Q.length x.h.A.c, .int .i64 x.op, .string x.p.v, .int .i64 x.p.n, .string x.p.s, .string x.q.v, .int .i64 x.q.n, .string x.q.s] 156)) := Rw.next hbW (below_alloc1 _ _)
    have D : Below W.heap.size W (W.alloc (.cells #[.int .i64 x.k, .string x.h.s, .slice x.h.A.a x.h.A.Q.length x.h.A.c, .int .i64 x.op, .string x.p.v, .int .i64 x.p.n, .string x.p.s, .string x.q.v, .int .i64 x.q.n, .string x.q.s] 156)) := below_alloc1 _ _
    have KB : (W.alloc (.cells #[.int .i64 x.k, .string x.h.s, .slice x.h.A.a x.h.A.Q.length x.h.A.c, .int .i64 x.op, .string x.p.v, .int .i64 x.p.n, .string x.p.s, .string x.q.v, .int .i64 x.q.n, .string x.q.s] 156)).heap[W.heap.size]? = some (.cells #[.int .i64 x.k, .string x.h.s, .slice x.h.A.a x.h.A.Q.length x.h.A.c, .int .i64 x.op, .string x.p.v, .int .i64 x.p.n, .string x.p.s, .string x.q.v, .int .i64 x.q.n, .string x.q.s] 156 (0, 0)) := at_new rfl
    have t0 : True := trivial
    have t1 : True := trivial
    have t2 : True := trivial
    clear hbW hR hL hM1 hM2 hp0 hp1 hp2
    go_enter Tryz.func105, Tryz.ntmps105
    go_wp2_with (first | (clear t0; go_at_call 71; refine (hq0 _ B).mono ?_; rintro e w0 ⟨rfl, hb⟩; replace B := Rw.next B hb; replace D := Rw.next D hb; replace KB := (hb.block _ (blk_lt KB)).trans KB; have z0_0 := blk_cell KB 0 rfl; have z0_1 := blk_cell KB 1 rfl; have z0_2 := blk_cell KB 2 rfl; have z0_3 := blk_cell KB 3 rfl; have z0_4 := blk_cell KB 4 rfl; have z0_5 := blk_cell KB 5 rfl; have z0_6 := blk_cell KB 6 rfl; have z0_7 := blk_cell KB 7 rfl; have z0_8 := blk_cell KB 8 rfl; have z0_9 := blk_cell KB 9 rfl) | (clear t1; go_at_call 134; refine (hq1 _ B).mono ?_; rintro e w1 ⟨rfl, hb⟩; replace B := Rw.next B hb; replace D := Rw.next D hb; replace KB := (hb.block _ (blk_lt KB)).trans KB; have z1_0 := blk_cell KB 0 rfl; have z1_1 := blk_cell KB 1 rfl; have z1_2 := blk_cell KB 2 rfl; have z1_3 := blk_cell KB 3 rfl; have z1_4 := blk_cell KB 4 rfl; have z1_5 := blk_cell KB 5 rfl; have z1_6 := blk_cell KB 6 rfl; have z1_7 := blk_cell KB 7 rfl; have z1_8 := blk_cell KB 8 rfl; have z1_9 := blk_cell KB 9 rfl) | (clear t2; go_at_call 134; refine (hq2 _ B).mono ?_; rintro e w2 ⟨rfl, hb⟩; replace B := Rw.next B hb; replace D := Rw.next D hb))
    go_ret
    exact ⟨rfl, D⟩
  · by_cases hx0 : L < k0
    · have hq0 := fun U hb => hp0.2 L U hb (by omega) (by omega)
      have B : Below w.heap.size w (W.alloc (.cells #[.int .i64 x.k, .string x.h.s, .slice x.h.A.a x.h.A.Q.length x.h.A.c, .int .i64 x.op, .string x.p.v, .int .i64 x.p.n, .string x.p.s, .string x.q.v, .int .i64 x.q.n, .string x.q.s] 156)) := Rw.next hbW (below_alloc1 _ _)
      have D : Below W.heap.size W (W.alloc (.cells #[.int .i64 x.k, .string x.h.s, .slice x.h.A.a x.h.A.Q.length x.h.A.c, .int .i64 x.op, .string x.p.v, .int .i64 x.p.n, .string x.p.s, .string x.q.v, .int .i64 x.q.n, .string x.q.s] 156)) := below_alloc1 _ _
      have t0 : True := trivial
      clear hbW hR hL hp0 hp1 hp2 hx0
      go_enter Tryz.func105, Tryz.ntmps105
      go_wp2_with (first | (clear t0; go_at_call 71; refine (hq0 _ B).mono ?_; rintro e w0 ⟨rfl, hb⟩; replace B := Rw.next B hb; replace D := Rw.next D hb))
      go_ret
      exact ⟨rfl, D⟩
    by_cases hx1 : L < k0 + k1
    · obtain ⟨M1, hM1⟩ : ∃ M, k0 + M = L := ⟨L - k0, by omega⟩
      have h0 : ¬ ((M1 : Int) < 0) := by omega
      have hq0 := fun U hb => hp0.1 L M1 U hb (by omega) (by omega)
      have hq1 := fun U hb => hp1.2 M1 U hb (by omega) (by omega)
      have B : Below w.heap.size w (W.alloc (.cells #[.int .i64 x.k, .string x.h.s, .slice x.h.A.a x.h.A.Q.length x.h.A.c, .int .i64 x.op, .string x.p.v, .int .i64 x.p.n, .string x.p.s, .string x.q.v, .int .i64 x.q.n, .string x.q.s] 156)) := Rw.next hbW (below_alloc1 _ _)
      have D : Below W.heap.size W (W.alloc (.cells #[.int .i64 x.k, .string x.h.s, .slice x.h.A.a x.h.A.Q.length x.h.A.c, .int .i64 x.op, .string x.p.v, .int .i64 x.p.n, .string x.p.s, .string x.q.v, .int .i64 x.q.n, .string x.q.s] 156)) := below_alloc1 _ _
      have KB : (W.alloc (.cells #[.int .i64 x.k, .string x.h.s, .slice x.h.A.a x.h.A.Q.length x.h.A.c, .int .i64 x.op, .string x.p.v, .int .i64 x.p.n, .string x.p.s, .string x.q.v, .int .i64 x.q.n, .string x.q.s] 156)).heap[W.heap.size]? = some (.cells #[.int .i64 x.k, .string x.h.s, .slice x.h.A.a x.h.A.Q.length x.h.A.c, .int .i64 x.op, .string x.p.v, .int .i64 x.p.n, .string x.p.s, .string x.q.v, .int .i64 x.q.n, .string x.q.s] 156 (0, 0)) := at_new rfl
      have t0 : True := trivial
      have t1 : True := trivial
      clear hbW hR hL hM1 hp0 hp1 hp2 hx0 hx1
      go_enter Tryz.func105, Tryz.ntmps105
      go_wp2_with (first | (clear t0; go_at_call 71; refine (hq0 _ B).mono ?_; rintro e w0 ⟨rfl, hb⟩; replace B := Rw.next B hb; replace D := Rw.next D hb; replace KB := (hb.block _ (blk_lt KB)).trans KB; have z0_0 := blk_cell KB 0 rfl; have z0_1 := blk_cell KB 1 rfl; have z0_2 := blk_cell KB 2 rfl; have z0_3 := blk_cell KB 3 rfl; have z0_4 := blk_cell KB 4 rfl; have z0_5 := blk_cell KB 5 rfl; have z0_6 := blk_cell KB 6 rfl; have z0_7 := blk_cell KB 7 rfl; have z0_8 := blk_cell KB 8 rfl; have z0_9 := blk_cell KB 9 rfl) | (clear t1; go_at_call 134; refine (hq1 _ B).mono ?_; rintro e w1 ⟨rfl, hb⟩; replace B := Rw.next B hb; replace D := Rw.next D hb))
      go_ret
      exact ⟨rfl, D⟩
    have hx2 : L < k0 + k1 + k2 := hR
    obtain ⟨M1, hM1⟩ : ∃ M, k0 + M = L := ⟨L - k0, by omega⟩
    have h0 : ¬ ((M1 : Int) < 0) := by omega
    have hq0 := fun U hb => hp0.1 L M1 U hb (by omega) (by omega)
    obtain ⟨M2, hM2⟩ : ∃ M, k1 + M = M1 := ⟨M1 - k1, by omega⟩
    have h1 : ¬ ((M2 : Int) < 0) := by omega
    have hq1 := fun U hb => hp1.1 M1 M2 U hb (by omega) (by omega)
    have hq2 := fun U hb => hp2.2 M2 U hb (by omega) (by omega)
    have B : Below w.heap.size w (W.alloc (.cells #[.int .i64 x.k, .string x.h.s, .slice x.h.A.a x.h.A.Q.length x.h.A.c, .int .i64 x.op, .string x.p.v, .int .i64 x.p.n, .string x.p.s, .string x.q.v, .int .i64 x.q.n, .string x.q.s] 156)) := Rw.next hbW (below_alloc1 _ _)
    have D : Below W.heap.size W (W.alloc (.cells #[.int .i64 x.k, .string x.h.s, .slice x.h.A.a x.h.A.Q.length x.h.A.c, .int .i64 x.op, .string x.p.v, .int .i64 x.p.n, .string x.p.s, .string x.q.v, .int .i64 x.q.n, .string x.q.s] 156)) := below_alloc1 _ _
    have KB : (W.alloc (.cells #[.int .i64 x.k, .string x.h.s, .slice x.h.A.a x.h.A.Q.length x.h.A.c, .int .i64 x.op, .string x.p.v, .int .i64 x.p.n, .string x.p.s, .string x.q.v, .int .i64 x.q.n, .string x.q.s] 156)).heap[W.heap.size]? = some (.cells #[.int .i64 x.k, .string x.h.s, .slice x.h.A.a x.h.A.Q.length x.h.A.c, .int .i64 x.op, .string x.p.v, .int .i64 x.p.n, .string x.p.s, .string x.q.v, .int .i64 x.q.n, .string x.q.s] 156 (0, 0)) := at_new rfl
    have t0 : True := trivial
    have t1 : True := trivial
    have t2 : True := trivial
    clear hbW hR hL hM1 hM2 hp0 hp1 hp2 hx0 hx1 hx2
    go_enter Tryz.func105, Tryz.ntmps105
    go_wp2_with (first | (clear t0; go_at_call 71; refine (hq0 _ B).mono ?_; rintro e w0 ⟨rfl, hb⟩; replace B := Rw.next B hb; replace D := Rw.next D hb; replace KB := (hb.block _ (blk_lt KB)).trans KB; have z0_0 := blk_cell KB 0 rfl; have z0_1 := blk_cell KB 1 rfl; have z0_2 := blk_cell KB 2 rfl; have z0_3 := blk_cell KB 3 rfl; have z0_4 := blk_cell KB 4 rfl; have z0_5 := blk_cell KB 5 rfl; have z0_6 := blk_cell KB 6 rfl; have z0_7 := blk_cell KB 7 rfl; have z0_8 := blk_cell KB 8 rfl; have z0_9 := blk_cell KB 9 rfl) | (clear t1; go_at_call 134; refine (hq1 _ B).mono ?_; rintro e w1 ⟨rfl, hb⟩; replace B := Rw.next B hb; replace D := Rw.next D hb; replace KB := (hb.block _ (blk_lt KB)).trans KB; have z1_0 := blk_cell KB 0 rfl; have z1_1 := blk_cell KB 1 rfl; have z1_2 := blk_cell KB 2 rfl; have z1_3 := blk_cell KB 3 rfl; have z1_4 := blk_cell KB 4 rfl; have z1_5 := blk_cell KB 5 rfl; have z1_6 := blk_cell KB 6 rfl; have z1_7 := blk_cell KB 7 rfl; have z1_8 := blk_cell KB 8 rfl; have z1_9 := blk_cell KB 9 rfl) | (clear t2; go_at_call 134; refine (hq2 _ B).mono ?_; rintro e w2 ⟨rfl, hb⟩; replace B := Rw.next B hb; replace D := Rw.next D hb))
    go_ret
    exact ⟨rfl, D⟩
set_option maxHeartbeats 2000000 in
theorem szLms_any (s : Sl Lm) (w : World) (h : Rd kdLm 0 w s) : Sized 72 (.slice s.a s.Q.length s.c) (wtS kdLm s.Q) w := by
  have HE : Hid (∀ i, i < s.Q.length → ∀ x, x = s.Q.getD i lm0 → Sized 105 (.agg #[.int .i64 x.k, .string x.h.s, .slice x.h.A.a x.h.A.Q.length x.h.A.c, .int .i64 x.op, .string x.p.v, .int .i64 x.p.n, .string x.p.s, .string x.q.v, .int .i64 x.q.n, .string x.q.s]) (x.wt) w) := fun i hi x hx => by rw [hx]; exact szLm_any _ w (h.ok i hi)
  obtain ⟨sa, sb, so, sc, sQ⟩ := s
  simp only at HE ⊢
  refine ⟨fun L R W hbW hR hL => ?_, fun L W hbW hR hL => ?_⟩
  · have h2 := h.keep (fun z _ hz => hbW.block z hz)
    have HR : Hid (wtS kdLm sQ + R = L) := hR
    obtain ⟨n, hn⟩ : ∃ n, n = sQ.length := ⟨_, rfl⟩
    have ew : wtS kdLm sQ = n + tot kdLm sQ n := by unfold wtS; rw [hn]
    have hm := h2.len
    rw [← hn] at HE hm ⊢
    have h0 : ¬ ((L : Int) - (n : Int) < 0) := by omega
    have HN : Hid (n = sQ.length) := hn
    have EW : Hid (wtS kdLm sQ = n + tot kdLm sQ n) := ew
    have hnL : n ≤ L := by omega
    clear hn hR h ew
    go_enter Tryz.func72, Tryz.ntmps72
    go_wp2
    go_loopw [1, 5] (fun u i wr => ∃ k : Nat, k ≤ n ∧ i = .int .i64 k ∧ u = .int .i64 ((L - n - tot kdLm sQ k : Nat) : Int) ∧ Below W.heap.size W wr) (fun _ i _ => n - (intOf i).toNat)
    case atStart => exact ⟨0, Nat.zero_le _, rfl, by simp only [tot]; congr 1; omega, Below.refl _ _⟩
    case round =>
      obtain ⟨k, hk, rfl, rfl, hbel⟩ := hrel
      have q1 := tot_mono (K := kdLm) sQ hk
      have hr := HR.out
      have ew := EW.out
      by_cases hlt : k < n
      · have hlQ : k < sQ.length := by have := HN.out; omega
        have q2 := tot_mono (K := kdLm) sQ (i := k + 1) (j := n) hlt
        simp only [tot] at q2
        change tot kdLm sQ k + (sQ.getD k lm0).wt ≤ tot kdLm sQ n at q2
        have hh := h2.head (by simp only; omega)
        have hkz : (k : Int) < (n : Int) := by omega
        obtain ⟨c0, c1, c2, c3, c4, c5, c6, c7, c8, c9⟩ := cellsLm (h2.below hbel) hlQ
        have hS := HE.out k hlt _ rfl
        have HT : Hid (tot kdLm sQ (k + 1) = tot kdLm sQ k + (sQ.getD k lm0).wt) := rfl
        obtain ⟨M, hM⟩ : ∃ M, M = L - n - tot kdLm sQ k := ⟨_, rfl⟩
        rw [← hM]
        try simp only at hh c0 c1 c2 c3 c4 c5 c6 c7 c8 c9
        obtain rfl := hh
        clear h2 HE
        generalize sQ.getD k lm0 = x at c0 c1 c2 c3 c4 c5 c6 c7 c8 c9 q2 HT hS
        try simp only at c0 c1 c2 c3 c4 c5 c6 c7 c8 c9 q2 hS
        obtain ⟨M', hM'⟩ : ∃ M', x.wt + M' = M := ⟨M - x.wt, by omega⟩
        have hSz := fun U hb => hS.1 M M' U hb hM' (by omega)
        have HM : Hid (M = L - n - tot kdLm sQ k) := hM
        have HM' : Hid (x.wt + M' = M) := hM'
        have HQ : Hid (tot kdLm sQ k + x.wt ≤ tot kdLm sQ n) := q2
        have hr' : Hid (wtS kdLm sQ + R = L) := hr
        have ew' : Hid (wtS kdLm sQ = n + tot kdLm sQ n) := ew
        clear hM hM' hr q1 q2 hS ew
        have h0' : ¬ ((M' : Int) < 0) := by omega
        go_wp2_with (go_at_call 105; refine (hSz _ (Rw.next hbW hbel)).mono ?_; rintro e w1 ⟨rfl, hb⟩)
        go_roundw
        case rel => exact ⟨k + 1, by omega, by go_num, by have := HT.out; have := HM.out; have := HM'.out; have := HQ.out; have := hr'.out; congr 1; omega, Rw.next hbel hb⟩
        case measure => simp [intOf]; omega
      · have he : k = n := by omega
        subst he
        have e : L - k - tot kdLm sQ k = R := by omega
        rw [e]
        clear e hr ew q1
        go_wp2
        go_ret
        exact ⟨rfl, hbel⟩
  · have h2 := h.keep (fun z _ hz => hbW.block z hz)
    obtain ⟨n, hn⟩ : ∃ n, n = sQ.length := ⟨_, rfl⟩
    have ew : wtS kdLm sQ = n + tot kdLm sQ n := by unfold wtS; rw [hn]
    have hm := h2.len
    rw [← hn] at HE hm ⊢
    by_cases hnL : n ≤ L
    · have h0 : ¬ ((L : Int) - (n : Int) < 0) := by omega
      have HR : Hid (L < wtS kdLm sQ) := hR
      have HN : Hid (n = sQ.length) := hn
      have EW : Hid (wtS kdLm sQ = n + tot kdLm sQ n) := ew
      clear hn hR h ew
      go_enter Tryz.func72, Tryz.ntmps72
      go_wp2
      go_loopw [1, 5] (fun u i wr => ∃ k : Nat, k ≤ n ∧ i = .int .i64 k ∧ u = .int .i64 ((L - n - tot kdLm sQ k : Nat) : Int) ∧ tot kdLm sQ k ≤ L - n ∧ Below W.heap.size W wr) (fun _ i _ => n - (intOf i).toNat)
      case atStart => exact ⟨0, Nat.zero_le _, rfl, by simp only [tot]; congr 1; omega, by simp [tot], Below.refl _ _⟩
      case round =>
        obtain ⟨k, hk, rfl, rfl, htk, hbel⟩ := hrel
        have hlt : k < n := by
          have := HR.out
          have := EW.out
          rcases Nat.lt_or_ge k n with h | h
          · exact h
          · have : k = n := by omega
            subst this; omega
        have hlQ : k < sQ.length := by have := HN.out; omega
        have hh := h2.head (by simp only; omega)
        have hkz : (k : Int) < (n : Int) := by omega
        obtain ⟨c0, c1, c2, c3, c4, c5, c6, c7, c8, c9⟩ := cellsLm (h2.below hbel) hlQ
        have hS := HE.out k hlt _ rfl
        have HT : Hid (tot kdLm sQ (k + 1) = tot kdLm sQ k + (sQ.getD k lm0).wt) := rfl
        obtain ⟨M, hM⟩ : ∃ M, M = L - n - tot kdLm sQ k := ⟨_, rfl⟩
        rw [← hM]
        try simp only at hh c0 c1 c2 c3 c4 c5 c6 c7 c8 c9
        obtain rfl := hh
        clear h2 HE
        generalize sQ.getD k lm0 = x at c0 c1 c2 c3 c4 c5 c6 c7 c8 c9 HT hS
        try simp only at c0 c1 c2 c3 c4 c5 c6 c7 c8 c9 hS
        have hhi : M ≤ 1048576 := by omega
        have HM : Hid (M = L - n - tot kdLm sQ k) := hM
        have HK : Hid (tot kdLm sQ k ≤ L - n) := htk
        clear hM htk
        by_cases hlo : x.wt ≤ M
        · obtain ⟨M', hM'⟩ : ∃ M', x.wt + M' = M := ⟨M - x.wt, by omega⟩
          have hSz := fun U hb => hS.1 M M' U hb hM' hhi
          have HM' : Hid (x.wt + M' = M) := hM'
          clear hM' hlo hS
          have h0' : ¬ ((M' : Int) < 0) := by omega
          go_wp2_with (go_at_call 105; refine (hSz _ (Rw.next hbW hbel)).mono ?_; rintro e w1 ⟨rfl, hb⟩)
          go_roundw
          case rel => exact ⟨k + 1, by omega, by go_num, by have := HT.out; have := HM.out; have := HK.out; have := HM'.out; congr 1; omega, by have := HT.out; have := HM.out; have := HK.out; have := HM'.out; omega, Rw.next hbel hb⟩
          case measure => simp [intOf]; omega
        · have hSz := fun U hb => hS.2 M U hb (by omega) hhi
          clear hlo hS
          go_wp2_with (go_at_call 105; refine (hSz _ (Rw.next hbW hbel)).mono ?_; rintro e w1 ⟨rfl, hb⟩)
          go_ret
          exact ⟨rfl, Rw.next hbel hb⟩
    · unfold maxLen at hm
      have h0 : (L : Int) - (n : Int) < 0 := by omega
      clear hn ew hR
      go_enter Tryz.func72, Tryz.ntmps72
      go_wp2
      go_ret
      exact ⟨rfl, Below.refl _ _⟩
set_option maxHeartbeats 2000000 in
theorem szRm_any (x : Rm) (w : World) (h : x.Ok 0 w) : Sized 37 (.agg #[.int .i64 x.k, .string x.h.s, .slice x.h.A.a x.h.A.Q.length x.h.A.c, .slice x.B.a x.B.Q.length x.B.c]) (x.wt) w := by
  have hp0 : Sized 71 (.agg #[.string x.h.s, .slice x.h.A.a x.h.A.Q.length x.h.A.c]) (x.h.wt) w := szAt_any _ w h.1
  have hp1 : Sized 72 (.slice x.B.a x.B.Q.length x.B.c) (wtS kdLm x.B.Q) w := szLms_any _ w h.2
  have hw : x.wt = (x.h.wt) + (wtS kdLm x.B.Q) := rfl
  rw [hw]
  clear hw
  generalize x.h.wt = k0 at hp0 ⊢
  generalize wtS kdLm x.B.Q = k1 at hp1 ⊢
  refine ⟨fun L R W hbW hR hL => ?_, fun L W hbW hR hL => ?_⟩
  · obtain ⟨M1, hM1⟩ : ∃ M, k0 + M = L := ⟨L - k0, by omega⟩
    have h0 : ¬ ((M1 : Int) < 0) := by omega
    have hq0 := fun U hb => hp0.1 L M1 U hb (by omega) (by omega)
    have h1 : ¬ ((R : Int) < 0) := by omega
    have hq1 := fun U hb => hp1.1 M1 R U hb (by omega) (by omega)
    have B : Below w.heap.size w (W.alloc (.cells #[.int .i64 x.k, .string x.h.s, .slice x.h.A.a x.h.A.Q.length x.h.A.c, .slice x.B.a x.B.Q.length x.B.c] 84)) := Rw.next hbW (below_alloc1 _ _)
    have D : Below W.heap.size W (W.alloc (.cells #[.int .i64 x.k, .string x.h.s, .slice x.h.A.a x.h.A.Q.length x.h.A.c, .slice x.B.a x.B.Q.length x.B.c] 84)) := below_alloc1 _ _
    have KB : (W.alloc (.cells #[.int .i64 x.k, .string x.h.s, .slice x.h.A.a x.h.A.Q.length x.h.A.c, .slice x.B.a x.B.Q.length x.B.c] 84)).heap[W.heap.size]? = some (.cells #[.int .i64 x.k, .string x.h.s, .slice x.h.A.a x.h.A.Q.length x.h.A.c, .slice x.B.a x.B.Q.length x.B.c] 84 (0, 0)) := at_new rfl
    have t0 : True := trivial
    have t1 : True := trivial
    clear hbW hR hL hM1 hp0 hp1
    go_enter Tryz.func37, Tryz.ntmps37
    go_wp2_with (first | (clear t0; go_at_call 71; refine (hq0 _ B).mono ?_; rintro e w0 ⟨rfl, hb⟩; replace B := Rw.next B hb; replace D := Rw.next D hb; replace KB := (hb.block _ (blk_lt KB)).trans KB; have z0_0 := blk_cell KB 0 rfl; have z0_1 := blk_cell KB 1 rfl; have z0_2 := blk_cell KB 2 rfl; have z0_3 := blk_cell KB 3 rfl) | (clear t1; go_at_call 72; refine (hq1 _ B).mono ?_; rintro e w1 ⟨rfl, hb⟩; replace B := Rw.next B hb; replace D := Rw.next D hb))
    go_ret
    exact ⟨rfl, D⟩
  · by_cases hx0 : L < k0
    · have hq0 := fun U hb => hp0.2 L U hb (by omega) (by omega)
      have B : Below w.heap.size w (W.alloc (.cells #[.int .i64 x.k, .string x.h.s, .slice x.h.A.a x.h.A.Q.length x.h.A.c, .slice x.B.a x.B.Q.length x.B.c] 84)) := Rw.next hbW (below_alloc1 _ _)
      have D : Below W.heap.size W (W.alloc (.cells #[.int .i64 x.k, .string x.h.s, .slice x.h.A.a x.h.A.Q.length x.h.A.c, .slice x.B.a x.B.Q.length x.B.c] 84)) := below_alloc1 _ _
      have t0 : True := trivial
      clear hbW hR hL hp0 hp1 hx0
      go_enter Tryz.func37, Tryz.ntmps37
      go_wp2_with (first | (clear t0; go_at_call 71; refine (hq0 _ B).mono ?_; rintro e w0 ⟨rfl, hb⟩; replace B := Rw.next B hb; replace D := Rw.next D hb))
      go_ret
      exact ⟨rfl, D⟩
    have hx1 : L < k0 + k1 := hR
    obtain ⟨M1, hM1⟩ : ∃ M, k0 + M = L := ⟨L - k0, by omega⟩
    have h0 : ¬ ((M1 : Int) < 0) := by omega
    have hq0 := fun U hb => hp0.1 L M1 U hb (by omega) (by omega)
    have hq1 := fun U hb => hp1.2 M1 U hb (by omega) (by omega)
    have B : Below w.heap.size w (W.alloc (.cells #[.int .i64 x.k, .string x.h.s, .slice x.h.A.a x.h.A.Q.length x.h.A.c, .slice x.B.a x.B.Q.length x.B.c] 84)) := Rw.next hbW (below_alloc1 _ _)
    have D : Below W.heap.size W (W.alloc (.cells #[.int .i64 x.k, .string x.h.s, .slice x.h.A.a x.h.A.Q.length x.h.A.c, .slice x.B.a x.B.Q.length x.B.c] 84)) := below_alloc1 _ _
    have KB : (W.alloc (.cells #[.int .i64 x.k, .string x.h.s, .slice x.h.A.a x.h.A.Q.length x.h.A.c, .slice x.B.a x.B.Q.length x.B.c] 84)).heap[W.heap.size]? = some (.cells #[.int .i64 x.k, .string x.h.s, .slice x.h.A.a x.h.A.Q.length x.h.A.c, .slice x.B.a x.B.Q.length x.B.c] 84 (0, 0)) := at_new rfl
    have t0 : True := trivial
    have t1 : True := trivial
    clear hbW hR hL hM1 hp0 hp1 hx0 hx1
    go_enter Tryz.func37, Tryz.ntmps37
    go_wp2_with (first | (clear t0; go_at_call 71; refine (hq0 _ B).mono ?_; rintro e w0 ⟨rfl, hb⟩; replace B := Rw.next B hb; replace D := Rw.next D hb; replace KB := (hb.block _ (blk_lt KB)).trans KB; have z0_0 := blk_cell KB 0 rfl; have z0_1 := blk_cell KB 1 rfl; have z0_2 := blk_cell KB 2 rfl; have z0_3 := blk_cell KB 3 rfl) | (clear t1; go_at_call 72; refine (hq1 _ B).mono ?_; rintro e w1 ⟨rfl, hb⟩; replace B := Rw.next B hb; replace D := Rw.next D hb))
    go_ret
    exact ⟨rfl, D⟩
set_option maxHeartbeats 2000000 in
theorem szRms_any (s : Sl Rm) (w : World) (h : Rd kdRm 0 w s) : Sized 17 (.slice s.a s.Q.length s.c) (wtS kdRm s.Q) w := by
  have HE : Hid (∀ i, i < s.Q.length → ∀ x, x = s.Q.getD i rm0 → Sized 37 (.agg #[.int .i64 x.k, .string x.h.s, .slice x.h.A.a x.h.A.Q.length x.h.A.c, .slice x.B.a x.B.Q.length x.B.c]) (x.wt) w) := fun i hi x hx => by rw [hx]; exact szRm_any _ w (h.ok i hi)
  obtain ⟨sa, sb, so, sc, sQ⟩ := s
  simp only at HE ⊢
  refine ⟨fun L R W hbW hR hL => ?_, fun L W hbW hR hL => ?_⟩
  · have h2 := h.keep (fun z _ hz => hbW.block z hz)
    have HR : Hid (wtS kdRm sQ + R = L) := hR
    obtain ⟨n, hn⟩ : ∃ n, n = sQ.length := ⟨_, rfl⟩
    have ew : wtS kdRm sQ = n + tot kdRm sQ n := by unfold wtS; rw [hn]
    have hm := h2.len
    rw [← hn] at HE hm ⊢
    have h0 : ¬ ((L : Int) - (n : Int) < 0) := by omega
    have HN : Hid (n = sQ.length) := hn
    have EW : Hid (wtS kdRm sQ = n + tot kdRm sQ n) := ew
    have hnL : n ≤ L := by omega
    clear hn hR h ew
    go_enter Tryz.func17, Tryz.ntmps17
    go_wp2
    go_loopw [1, 5] (fun u i wr => ∃ k : Nat, k ≤ n ∧ i = .int .i64 k ∧ u = .int .i64 ((L - n - tot kdRm sQ k : Nat) : Int) ∧ Below W.heap.size W wr) (fun _ i _ => n - (intOf i).toNat)
    case atStart => exact ⟨0, Nat.zero_le _, rfl, by simp only [tot]; congr 1; omega, Below.refl _ _⟩
    case round =>
      obtain ⟨k, hk, rfl, rfl, hbel⟩ := hrel
      have q1 := tot_mono (K := kdRm) sQ hk
      have hr := HR.out
      have ew := EW.out
      by_cases hlt : k < n
      · have hlQ : k < sQ.length := by have := HN.out; omega
        have q2 := tot_mono (K := kdRm) sQ (i := k + 1) (j := n) hlt
        simp only [tot] at q2
        change tot kdRm sQ k + (sQ.getD k rm0).wt ≤ tot kdRm sQ n at q2
        have hh := h2.head (by simp only; omega)
        have hkz : (k : Int) < (n : Int) := by omega
        obtain ⟨c0, c1, c2, c3⟩ := cellsRm (h2.below hbel) hlQ
        have hS := HE.out k hlt _ rfl
        have HT : Hid (tot kdRm sQ (k + 1) = tot kdRm sQ k + (sQ.getD k rm0).wt) := rfl
        obtain ⟨M, hM⟩ : ∃ M, M = L - n - tot kdRm sQ k := ⟨_, rfl⟩
        rw [← hM]
        try simp only at hh c0 c1 c2 c3
        obtain rfl := hh
        clear h2 HE
        generalize sQ.getD k rm0 = x at c0 c1 c2 c3 q2 HT hS
        try simp only at c0 c1 c2 c3 q2 hS
        obtain ⟨M', hM'⟩ : ∃ M', x.wt + M' = M := ⟨M - x.wt, by omega⟩
        have hSz := fun U hb => hS.1 M M' U hb hM' (by omega)
        have HM : Hid (M = L - n - tot kdRm sQ k) := hM
        have HM' : Hid (x.wt + M' = M) := hM'
        have HQ : Hid (tot kdRm sQ k + x.wt ≤ tot kdRm sQ n) := q2
        have hr' : Hid (wtS kdRm sQ + R = L) := hr
        have ew' : Hid (wtS kdRm sQ = n + tot kdRm sQ n) := ew
        clear hM hM' hr q1 q2 hS ew
        have h0' : ¬ ((M' : Int) < 0) := by omega
        go_wp2_with (go_at_call 37; refine (hSz _ (Rw.next hbW hbel)).mono ?_; rintro e w1 ⟨rfl, hb⟩)
        go_roundw
        case rel => exact ⟨k + 1, by omega, by go_num, by have := HT.out; have := HM.out; have := HM'.out; have := HQ.out; have := hr'.out; congr 1; omega, Rw.next hbel hb⟩
        case measure => simp [intOf]; omega
      · have he : k = n := by omega
        subst he
        have e : L - k - tot kdRm sQ k = R := by omega
        rw [e]
        clear e hr ew q1
        go_wp2
        go_ret
        exact ⟨rfl, hbel⟩
  · have h2 := h.keep (fun z _ hz => hbW.block z hz)
    obtain ⟨n, hn⟩ : ∃ n, n = sQ.length := ⟨_, rfl⟩
    have ew : wtS kdRm sQ = n + tot kdRm sQ n := by unfold wtS; rw [hn]
    have hm := h2.len
    rw [← hn] at HE hm ⊢
    by_cases hnL : n ≤ L
    · have h0 : ¬ ((L : Int) - (n : Int) < 0) := by omega
      have HR : Hid (L < wtS kdRm sQ) := hR
      have HN : Hid (n = sQ.length) := hn
      have EW : Hid (wtS kdRm sQ = n + tot kdRm sQ n) := ew
      clear hn hR h ew
      go_enter Tryz.func17, Tryz.ntmps17
      go_wp2
      go_loopw [1, 5] (fun u i wr => ∃ k : Nat, k ≤ n ∧ i = .int .i64 k ∧ u = .int .i64 ((L - n - tot kdRm sQ k : Nat) : Int) ∧ tot kdRm sQ k ≤ L - n ∧ Below W.heap.size W wr) (fun _ i _ => n - (intOf i).toNat)
      case atStart => exact ⟨0, Nat.zero_le _, rfl, by simp only [tot]; congr 1; omega, by simp [tot], Below.refl _ _⟩
      case round =>
        obtain ⟨k, hk, rfl, rfl, htk, hbel⟩ := hrel
        have hlt : k < n := by
          have := HR.out
          have := EW.out
          rcases Nat.lt_or_ge k n with h | h
          · exact h
          · have : k = n := by omega
            subst this; omega
        have hlQ : k < sQ.length := by have := HN.out; omega
        have hh := h2.head (by simp only; omega)
        have hkz : (k : Int) < (n : Int) := by omega
        obtain ⟨c0, c1, c2, c3⟩ := cellsRm (h2.below hbel) hlQ
        have hS := HE.out k hlt _ rfl
        have HT : Hid (tot kdRm sQ (k + 1) = tot kdRm sQ k + (sQ.getD k rm0).wt) := rfl
        obtain ⟨M, hM⟩ : ∃ M, M = L - n - tot kdRm sQ k := ⟨_, rfl⟩
        rw [← hM]
        try simp only at hh c0 c1 c2 c3
        obtain rfl := hh
        clear h2 HE
        generalize sQ.getD k rm0 = x at c0 c1 c2 c3 HT hS
        try simp only at c0 c1 c2 c3 hS
        have hhi : M ≤ 1048576 := by omega
        have HM : Hid (M = L - n - tot kdRm sQ k) := hM
        have HK : Hid (tot kdRm sQ k ≤ L - n) := htk
        clear hM htk
        by_cases hlo : x.wt ≤ M
        · obtain ⟨M', hM'⟩ : ∃ M', x.wt + M' = M := ⟨M - x.wt, by omega⟩
          have hSz := fun U hb => hS.1 M M' U hb hM' hhi
          have HM' : Hid (x.wt + M' = M) := hM'
          clear hM' hlo hS
          have h0' : ¬ ((M' : Int) < 0) := by omega
          go_wp2_with (go_at_call 37; refine (hSz _ (Rw.next hbW hbel)).mono ?_; rintro e w1 ⟨rfl, hb⟩)
          go_roundw
          case rel => exact ⟨k + 1, by omega, by go_num, by have := HT.out; have := HM.out; have := HK.out; have := HM'.out; congr 1; omega, by have := HT.out; have := HM.out; have := HK.out; have := HM'.out; omega, Rw.next hbel hb⟩
          case measure => simp [intOf]; omega
        · have hSz := fun U hb => hS.2 M U hb (by omega) hhi
          clear hlo hS
          go_wp2_with (go_at_call 37; refine (hSz _ (Rw.next hbW hbel)).mono ?_; rintro e w1 ⟨rfl, hb⟩)
          go_ret
          exact ⟨rfl, Rw.next hbel hb⟩
    · unfold maxLen at hm
      have h0 : (L : Int) - (n : Int) < 0 := by omega
      clear hn ew hR
      go_enter Tryz.func17, Tryz.ntmps17
      go_wp2
      go_ret
      exact ⟨rfl, Below.refl _ _⟩
set_option maxHeartbeats 2000000 in
theorem szPg_any (x : Pg) (w : World) (h : x.Ok 0 w) : Sized 5 (.agg #[.slice x.D.a x.D.Q.length x.D.c, .slice x.R.a x.R.Q.length x.R.c]) (x.wt) w := by
  have hp0 : Sized 16 (.slice x.D.a x.D.Q.length x.D.c) (wtS kdDc x.D.Q) w := szDcs_any _ w h.1
  have hp1 : Sized 17 (.slice x.R.a x.R.Q.length x.R.c) (wtS kdRm x.R.Q) w := szRms_any _ w h.2
  have hw : x.wt = (wtS kdDc x.D.Q) + (wtS kdRm x.R.Q) := rfl
  rw [hw]
  clear hw
  generalize wtS kdDc x.D.Q = k0 at hp0 ⊢
  generalize wtS kdRm x.R.Q = k1 at hp1 ⊢
  refine ⟨fun L R W hbW hR hL => ?_, fun L W hbW hR hL => ?_⟩
  · obtain ⟨M1, hM1⟩ : ∃ M, k0 + M = L := ⟨L - k0, by omega⟩
    have h0 : ¬ ((M1 : Int) < 0) := by omega
    have hq0 := fun U hb => hp0.1 L M1 U hb (by omega) (by omega)
    have h1 : ¬ ((R : Int) < 0) := by omega
    have hq1 := fun U hb => hp1.1 M1 R U hb (by omega) (by omega)
    have B : Below w.heap.size w (W.alloc (.cells #[.slice x.D.a x.D.Q.length x.D.c, .slice x.R.a x.R.Q.length x.R.c] 25)) := Rw.next hbW (below_alloc1 _ _)
    have D : Below W.heap.size W (W.alloc (.cells #[.slice x.D.a x.D.Q.length x.D.c, .slice x.R.a x.R.Q.length x.R.c] 25)) := below_alloc1 _ _
    have KB : (W.alloc (.cells #[.slice x.D.a x.D.Q.length x.D.c, .slice x.R.a x.R.Q.length x.R.c] 25)).heap[W.heap.size]? = some (.cells #[.slice x.D.a x.D.Q.length x.D.c, .slice x.R.a x.R.Q.length x.R.c] 25 (0, 0)) := at_new rfl
    have t0 : True := trivial
    have t1 : True := trivial
    clear hbW hR hL hM1 hp0 hp1
    go_enter Tryz.func5, Tryz.ntmps5
    go_wp2_with (first | (clear t0; go_at_call 16; refine (hq0 _ B).mono ?_; rintro e w0 ⟨rfl, hb⟩; replace B := Rw.next B hb; replace D := Rw.next D hb; replace KB := (hb.block _ (blk_lt KB)).trans KB; have z0_0 := blk_cell KB 0 rfl; have z0_1 := blk_cell KB 1 rfl) | (clear t1; go_at_call 17; refine (hq1 _ B).mono ?_; rintro e w1 ⟨rfl, hb⟩; replace B := Rw.next B hb; replace D := Rw.next D hb))
    go_ret
    exact ⟨rfl, D⟩
  · by_cases hx0 : L < k0
    · have hq0 := fun U hb => hp0.2 L U hb (by omega) (by omega)
      have B : Below w.heap.size w (W.alloc (.cells #[.slice x.D.a x.D.Q.length x.D.c, .slice x.R.a x.R.Q.length x.R.c] 25)) := Rw.next hbW (below_alloc1 _ _)
      have D : Below W.heap.size W (W.alloc (.cells #[.slice x.D.a x.D.Q.length x.D.c, .slice x.R.a x.R.Q.length x.R.c] 25)) := below_alloc1 _ _
      have t0 : True := trivial
      clear hbW hR hL hp0 hp1 hx0
      go_enter Tryz.func5, Tryz.ntmps5
      go_wp2_with (first | (clear t0; go_at_call 16; refine (hq0 _ B).mono ?_; rintro e w0 ⟨rfl, hb⟩; replace B := Rw.next B hb; replace D := Rw.next D hb))
      go_ret
      exact ⟨rfl, D⟩
    have hx1 : L < k0 + k1 := hR
    obtain ⟨M1, hM1⟩ : ∃ M, k0 + M = L := ⟨L - k0, by omega⟩
    have h0 : ¬ ((M1 : Int) < 0) := by omega
    have hq0 := fun U hb => hp0.1 L M1 U hb (by omega) (by omega)
    have hq1 := fun U hb => hp1.2 M1 U hb (by omega) (by omega)
    have B : Below w.heap.size w (W.alloc (.cells #[.slice x.D.a x.D.Q.length x.D.c, .slice x.R.a x.R.Q.length x.R.c] 25)) := Rw.next hbW (below_alloc1 _ _)
    have D : Below W.heap.size W (W.alloc (.cells #[.slice x.D.a x.D.Q.length x.D.c, .slice x.R.a x.R.Q.length x.R.c] 25)) := below_alloc1 _ _
    have KB : (W.alloc (.cells #[.slice x.D.a x.D.Q.length x.D.c, .slice x.R.a x.R.Q.length x.R.c] 25)).heap[W.heap.size]? = some (.cells #[.slice x.D.a x.D.Q.length x.D.c, .slice x.R.a x.R.Q.length x.R.c] 25 (0, 0)) := at_new rfl
    have t0 : True := trivial
    have t1 : True := trivial
    clear hbW hR hL hM1 hp0 hp1 hx0 hx1
    go_enter Tryz.func5, Tryz.ntmps5
    go_wp2_with (first | (clear t0; go_at_call 16; refine (hq0 _ B).mono ?_; rintro e w0 ⟨rfl, hb⟩; replace B := Rw.next B hb; replace D := Rw.next D hb; replace KB := (hb.block _ (blk_lt KB)).trans KB; have z0_0 := blk_cell KB 0 rfl; have z0_1 := blk_cell KB 1 rfl) | (clear t1; go_at_call 17; refine (hq1 _ B).mono ?_; rintro e w1 ⟨rfl, hb⟩; replace B := Rw.next B hb; replace D := Rw.next D hb))
    go_ret
    exact ⟨rfl, D⟩

end Go.Proofs.YtljlgjgfmgilaaaGreat.Pm
