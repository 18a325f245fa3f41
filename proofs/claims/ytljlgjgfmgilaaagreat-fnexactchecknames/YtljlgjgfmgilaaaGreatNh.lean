/-
  The program's looks at names: methods over the map, searches for an atom or a literal, where a rule's head and news fit.
-/
import Derived.Test.YtljlgjgfmgilaaaGreatNb
import Derived.Test.YtljlgjgfmgilaaaGreatNf0
namespace Go.Proofs.YtljlgjgfmgilaaaGreat.Nq
set_option maxRecDepth 8000
set_option linter.unusedSimpArgs false
set_option linter.unusedVariables false
open Go Go.ChangeShapes Go.WideShapes Go.RowKit
open Num Pl Pm
open Nb (Mem)

theorem beq_dec (a b : Int) : (a == b) = decide (a = b) := by by_cases h : a = b <;> simp [h]
theorem bne_dec (a b : Int) : (a != b) = decide (¬ a = b) := by by_cases h : a = b <;> simp [h]
theorem lacks_any (x : HA) (b : Nat) (L : List Nv) (w : World) (hx : x.s.size ≤ maxLen ∧ x.l ≤ maxLen) (hm : Mem w b L) : Calls Tryz.prog 52 #[.map (some b), .agg #[.string x.s, .slice x.a x.l x.c]] w fun e w' => e = .returned (.bool (lacksB L (x.s, x.l))) ∧ Below w.heap.size w w' := by
  have B := below_alloc1 w (.cells #[.string x.s, .slice x.a x.l x.c] 52)
  obtain ⟨q1, q2⟩ := (hm.below B).run (s := x.s) (by exact hx.1)
  have hf := field_k
  have hg := field_ar
  have HA : Hid ((!(lkp L x.s).isSome) = lacksB L (x.s, x.l)) := by rw [Hid]; unfold lacksB; cases lkp L x.s <;> rfl
  generalize lacksB L (x.s, x.l) = A at HA ⊢
  generalize lk L x.s = d at q1 q2
  generalize (lkp L x.s).isSome = s at q2 HA
  clear hm q1 hx
  go_enter Tryz.func52, Tryz.ntmps52
  go_wp2
  go_ret
  exact ⟨Pm.ret_bool (by simpa using HA.out), Rw.next B (below_alloc1 _ _)⟩
theorem other_any (x : HA) (b : Nat) (L : List Nv) (w : World) (hx : x.s.size ≤ maxLen ∧ x.l ≤ maxLen) (hm : Mem w b L) : Calls Tryz.prog 53 #[.map (some b), .agg #[.string x.s, .slice x.a x.l x.c]] w fun e w' => e = .returned (.bool (otherB L (x.s, x.l))) ∧ Below w.heap.size w w' := by
  have B := below_alloc1 w (.cells #[.string x.s, .slice x.a x.l x.c] 52)
  obtain ⟨q1, q2⟩ := (hm.below B).run (s := x.s) (by exact hx.1)
  have hf := field_k
  have hg := field_ar
  have HA : Hid (decide (¬ (x.l : Int) = (lk L x.s).ar) = otherB L (x.s, x.l)) := rfl
  generalize otherB L (x.s, x.l) = A at HA ⊢
  generalize lk L x.s = d at q1 q2 HA
  clear hm q2 hx
  go_enter Tryz.func53, Tryz.ntmps53
  go_wp2
  go_ret
  exact ⟨Pm.ret_bool (by rw [← HA.out, bne_dec]), B⟩
theorem kind_any (x : Lm) (b : Nat) (L : List Nv) (w : World) (hx : x.h.s.size ≤ maxLen) (hm : Mem w b L) : Calls Tryz.prog 90 #[.map (some b), .agg #[.int .i64 x.k, .string x.h.s, .slice x.h.A.a x.h.A.Q.length x.h.A.c, .int .i64 x.op, .string x.p.v, .int .i64 x.p.n, .string x.p.s, .string x.q.v, .int .i64 x.q.n, .string x.q.s]] w fun e w' => e = .returned (.int .i64 (lk L x.h.s).k) ∧ Below w.heap.size w w' := by
  have B := below_alloc1 w (.cells #[.int .i64 x.k, .string x.h.s, .slice x.h.A.a x.h.A.Q.length x.h.A.c, .int .i64 x.op, .string x.p.v, .int .i64 x.p.n, .string x.p.s, .string x.q.v, .int .i64 x.q.n, .string x.q.s] 96)
  obtain ⟨q1, q2⟩ := (hm.below B).run (s := x.h.s) (by exact hx)
  have hf := field_k
  have hg := field_ar
  generalize lk L x.h.s = d at q1 q2 ⊢
  clear hm q2 hx
  go_enter Tryz.func90, Tryz.ntmps90
  go_wp2
  go_ret
  exact ⟨rfl, B⟩
theorem fwd_any (x : Lm) (b : Nat) (L : List Nv) (w : World) (hx : x.h.s.size ≤ maxLen) (hm : Mem w b L) : Calls Tryz.prog 56 #[.map (some b), .agg #[.int .i64 x.k, .string x.h.s, .slice x.h.A.a x.h.A.Q.length x.h.A.c, .int .i64 x.op, .string x.p.v, .int .i64 x.p.n, .string x.p.s, .string x.q.v, .int .i64 x.q.n, .string x.q.s]] w fun e w' => e = .returned (.bool (fwdB L x.l)) ∧ Below w.heap.size w w' := by
  have B := below_alloc1 w (.cells #[.int .i64 x.k, .string x.h.s, .slice x.h.A.a x.h.A.Q.length x.h.A.c, .int .i64 x.op, .string x.p.v, .int .i64 x.p.n, .string x.p.s, .string x.q.v, .int .i64 x.q.n, .string x.q.s] 96)
  have hK := kind_any x b L _ hx (hm.below B)
  have HA : Hid (decide ((lk L x.h.s).k = 5) = fwdB L x.l) := rfl
  generalize fwdB L x.l = A at HA ⊢
  generalize (lk L x.h.s).k = k at hK HA
  go_enter Tryz.func56, Tryz.ntmps56
  go_wp2_with (go_at_call 90; refine hK.mono ?_; rintro e w1 ⟨rfl, hb⟩)
  go_ret
  exact ⟨Pm.ret_bool (by rw [← HA.out, beq_dec]), Rw.next B hb⟩
theorem news_any (x : Lm) (b : Nat) (L : List Nv) (w : World) (hx : x.h.s.size ≤ maxLen) (hm : Mem w b L) : Calls Tryz.prog 92 #[.map (some b), .agg #[.int .i64 x.k, .string x.h.s, .slice x.h.A.a x.h.A.Q.length x.h.A.c, .int .i64 x.op, .string x.p.v, .int .i64 x.p.n, .string x.p.s, .string x.q.v, .int .i64 x.q.n, .string x.q.s]] w fun e w' => e = .returned (.bool (nwsB L x.l)) ∧ Below w.heap.size w w' := by
  have B := below_alloc1 w (.cells #[.int .i64 x.k, .string x.h.s, .slice x.h.A.a x.h.A.Q.length x.h.A.c, .int .i64 x.op, .string x.p.v, .int .i64 x.p.n, .string x.p.s, .string x.q.v, .int .i64 x.q.n, .string x.q.s] 96)
  have hK := kind_any x b L _ hx (hm.below B)
  have HA : Hid (nwsB L x.l = decide ((lk L x.h.s).k = 4 ∨ (lk L x.h.s).k = 2)) := rfl
  generalize nwsB L x.l = A at HA ⊢
  generalize (lk L x.h.s).k = k at hK HA
  by_cases h4 : k = 4
  · obtain rfl : A = true := by rw [HA.out]; simp [h4]
    clear HA
    go_enter Tryz.func92, Tryz.ntmps92
    go_wp2_with (go_at_call 90; refine hK.mono ?_; rintro e w1 ⟨rfl, hb⟩)
    go_ret
    exact ⟨rfl, Rw.next B hb⟩
  · by_cases h2 : k = 2
    · obtain rfl : A = true := by rw [HA.out]; simp [h2]
      clear HA
      go_enter Tryz.func92, Tryz.ntmps92
      go_wp2_with (go_at_call 90; refine hK.mono ?_; rintro e w1 ⟨rfl, hb⟩)
      go_ret
      exact ⟨rfl, Rw.next B hb⟩
    · obtain rfl : A = false := by rw [HA.out]; simp [h2, h4]
      clear HA
      go_enter Tryz.func92, Tryz.ntmps92
      go_wp2_with (go_at_call 90; refine hK.mono ?_; rintro e w1 ⟨rfl, hb⟩)
      go_ret
      exact ⟨Pm.ret_bool (by simp [h2, h4]), Rw.next B hb⟩
theorem fits_any (r : Rm) (b : Nat) (L : List Nv) (w : World) (hx : r.h.s.size ≤ maxLen) (hm : Mem w b L) : Calls Tryz.prog 54 #[.map (some b), .agg #[.int .i64 r.k, .string r.h.s, .slice r.h.A.a r.h.A.Q.length r.h.A.c, .slice r.B.a r.B.Q.length r.B.c]] w fun e w' => e = .returned (.bool (fitsB L r.l)) ∧ Below w.heap.size w w' := by
  have B := below_alloc1 w (.cells #[.int .i64 r.k, .string r.h.s, .slice r.h.A.a r.h.A.Q.length r.h.A.c, .slice r.B.a r.B.Q.length r.B.c] 55)
  obtain ⟨q1, q2⟩ := (hm.below B).run (s := r.h.s) hx
  have hf := field_k
  have HA : Hid (fitsB L r.l = if r.k = 1 then decide ((lk L r.h.s).k = 3 ∨ (lk L r.h.s).k = 5) else decide ((lk L r.h.s).k = 1)) := rfl
  generalize fitsB L r.l = A at HA ⊢
  generalize lk L r.h.s = d at q1 q2 HA
  clear hm q2 hx
  obtain ⟨dk, ds, da⟩ := d
  obtain ⟨rk, rh, rB⟩ := r
  simp only at q1 HA B ⊢
  by_cases h1 : rk = 1
  · subst h1
    by_cases h3 : dk = 3
    · obtain rfl : A = true := by rw [HA.out]; simp [h3]
      clear HA
      subst h3
      go_enter Tryz.func54, Tryz.ntmps54
      go_wp2
      go_ret
      exact ⟨rfl, B⟩
    · have HR : Hid (A = decide (dk = 5)) := by rw [Hid, HA.out]; simp [h3]
      clear HA
      go_enter Tryz.func54, Tryz.ntmps54
      go_wp2
      go_ret
      exact ⟨Pm.ret_bool (by rw [HR.out]; simp [h3, beq_dec]), B⟩
  · have HR : Hid (A = decide (dk = 1)) := by rw [Hid, HA.out]; simp [h1]
    clear HA
    go_enter Tryz.func54, Tryz.ntmps54
    go_wp2
    go_ret
    exact ⟨Pm.ret_bool (by rw [HR.out, beq_dec]), B⟩

set_option maxHeartbeats 4000000 in
theorem index_lacks (s : Sl HA) (b : Nat) (L : List Nv) (w : World) (h : Rd kdHa 0 w s) (hm : Mem w b L) :
    Calls Tryz.prog 88 #[.slice s.a s.Q.length s.c, .func (.func 52) #[.map (some b)] #[]] w fun e w' => Below w.heap.size w w' ∧ ∃ r : Int, e = .returned (.int .i64 r) ∧ decide (0 ≤ r) = (told kdHa s.Q).any (lacksB L) := by
  have HB : Hid (∀ k, k < s.Q.length → lacksB L (kdHa.l (s.Q.getD k ha0)) = true → (told kdHa s.Q).any (lacksB L) = true) := fun k hk h => any_at (i := k) (d := kdHa.l ha0) (by rw [told_len]; exact hk) (by rw [show (told kdHa s.Q).getD k (kdHa.l ha0) = kdHa.l (s.Q.getD k ha0) from told_at (K := kdHa) _ _]; exact h)
  have HG : Hid ((∀ i, i < s.Q.length → lacksB L (kdHa.l (s.Q.getD i ha0)) = false) → (told kdHa s.Q).any (lacksB L) = false) := fun h => any_no (kdHa.l ha0) fun i hi => by
    rw [show (told kdHa s.Q).getD i (kdHa.l ha0) = kdHa.l (s.Q.getD i ha0) from told_at (K := kdHa) _ _]
    exact h i (by rw [told_len] at hi; exact hi)
  generalize (told kdHa s.Q).any (lacksB L) = R at HB HG ⊢
  have HF : Hid (∀ i, i < s.Q.length → ∀ x, x = s.Q.getD i ha0 → ∀ W, Below w.heap.size w W → Calls Tryz.prog 52 #[.map (some b), .agg #[.string x.s, .slice x.a x.l x.c]] W fun e w' => e = .returned (.bool (lacksB L (kdHa.l x))) ∧ Below W.heap.size W w') := fun i hi x hx W hb => by
    have ho := h.ok i hi
    rw [hx]; exact lacks_any _ b L W ho (hm.below hb)
  obtain ⟨sa, sb, so, sc, sQ⟩ := s
  simp only at HB HG HF ⊢
  obtain ⟨n, hn⟩ : ∃ n, n = sQ.length := ⟨_, rfl⟩
  have hmx : n ≤ maxLen := by rw [hn]; exact h.len
  unfold maxLen at hmx
  rw [← hn] at HB HG HF ⊢
  have HN : Hid (n = sQ.length) := hn
  clear hn hm
  go_enter Tryz.func88, Tryz.ntmps88
  go_wp2
  go_loopw [8] (fun i wr => ∃ k : Nat, k ≤ n ∧ i = .int .i64 k ∧ Below w.heap.size w wr ∧ ∀ i, i < k → lacksB L (kdHa.l (sQ.getD i ha0)) = false) (fun i _ => n - (intOf i).toNat)
  case atStart => exact ⟨0, Nat.zero_le _, rfl, Below.refl _ _, fun i hi => by omega⟩
  case round =>
    obtain ⟨k, hk, rfl, hbel, hpre⟩ := hrel
    have HP : Hid (∀ i, i < k → lacksB L (kdHa.l (sQ.getD i ha0)) = false) := hpre
    clear hpre
    by_cases hlt : k < n
    · have hh := h.head (by have := HN.out; simp only; omega)
      have hkz : (k : Int) < (n : Int) := by omega
      obtain ⟨c0, c1⟩ := cellsHa (h.below hbel) (i := k) (by have := HN.out; simp only; omega)
      try simp only at hh c0 c1
      obtain rfl := hh
      have HB1 : Hid (lacksB L (kdHa.l (sQ.getD k ha0)) = true → R = true) := HB.out k hlt
      have HX : Hid (lacksB L (kdHa.l (sQ.getD k ha0)) = false → ∀ i, i < k + 1 → lacksB L (kdHa.l (sQ.getD i ha0)) = false) := fun h i hi => by
        by_cases e : i = k
        · subst e; exact h
        · exact HP.out i (by omega)
      have hU := HF.out k hlt _ rfl wr hbel
      clear h HF HB HN
      generalize lacksB L (kdHa.l (sQ.getD k ha0)) = V at hU HB1 HX
      generalize sQ.getD k ha0 = x at c0 c1 hU
      cases hv : V with
      | false =>
        rw [hv] at hU
        go_wp2_with (go_at_call 52; refine hU.mono ?_; rintro e w1 ⟨rfl, hb⟩)
        go_roundw
        case rel => exact ⟨k + 1, by omega, by go_num, Rw.next hbel hb, HX.out hv⟩
        case measure => simp [intOf]; omega
      | true =>
        rw [hv] at hU
        go_wp2_with (go_at_call 52; refine hU.mono ?_; rintro e w1 ⟨rfl, hb⟩)
        go_ret
        exact ⟨Rw.next hbel hb, _, rfl, by rw [HB1.out hv]; simp⟩
    · have he : k = n := by omega
      subst he
      clear h
      go_wp2
      go_ret
      exact ⟨hbel, _, rfl, by rw [HG.out HP.out]; rfl⟩
theorem contains_lacks (s : Sl HA) (b : Nat) (L : List Nv) (w : World) (h : Rd kdHa 0 w s) (hm : Mem w b L) :
    Calls Tryz.prog 51 #[.slice s.a s.Q.length s.c, .func (.func 52) #[.map (some b)] #[]] w fun e w' => e = .returned (.bool ((told kdHa s.Q).any (lacksB L))) ∧ Below w.heap.size w w' := by
  have hi := index_lacks s b L w h hm
  generalize (told kdHa s.Q).any (lacksB L) = R at hi ⊢
  clear h hm
  go_enter Tryz.func51, Tryz.ntmps51
  go_wp2_with (go_at_call 88; refine hi.mono ?_; rintro e w1 ⟨hb, r, rfl, hr⟩; have HR : Hid (decide (0 ≤ r) = R) := hr; clear hr)
  go_ret
  exact ⟨Pm.ret_bool (by rw [← HR.out]), hb⟩

set_option maxHeartbeats 4000000 in
theorem index_other (s : Sl HA) (b : Nat) (L : List Nv) (w : World) (h : Rd kdHa 0 w s) (hm : Mem w b L) :
    Calls Tryz.prog 88 #[.slice s.a s.Q.length s.c, .func (.func 53) #[.map (some b)] #[]] w fun e w' => Below w.heap.size w w' ∧ ∃ r : Int, e = .returned (.int .i64 r) ∧ decide (0 ≤ r) = (told kdHa s.Q).any (otherB L) := by
  have HB : Hid (∀ k, k < s.Q.length → otherB L (kdHa.l (s.Q.getD k ha0)) = true → (told kdHa s.Q).any (otherB L) = true) := fun k hk h => any_at (i := k) (d := kdHa.l ha0) (by rw [told_len]; exact hk) (by rw [show (told kdHa s.Q).getD k (kdHa.l ha0) = kdHa.l (s.Q.getD k ha0) from told_at (K := kdHa) _ _]; exact h)
  have HG : Hid ((∀ i, i < s.Q.length → otherB L (kdHa.l (s.Q.getD i ha0)) = false) → (told kdHa s.Q).any (otherB L) = false) := fun h => any_no (kdHa.l ha0) fun i hi => by
    rw [show (told kdHa s.Q).getD i (kdHa.l ha0) = kdHa.l (s.Q.getD i ha0) from told_at (K := kdHa) _ _]
    exact h i (by rw [told_len] at hi; exact hi)
  generalize (told kdHa s.Q).any (otherB L) = R at HB HG ⊢
  have HF : Hid (∀ i, i < s.Q.length → ∀ x, x = s.Q.getD i ha0 → ∀ W, Below w.heap.size w W → Calls Tryz.prog 53 #[.map (some b), .agg #[.string x.s, .slice x.a x.l x.c]] W fun e w' => e = .returned (.bool (otherB L (kdHa.l x))) ∧ Below W.heap.size W w') := fun i hi x hx W hb => by
    have ho := h.ok i hi
    rw [hx]; exact other_any _ b L W ho (hm.below hb)
  obtain ⟨sa, sb, so, sc, sQ⟩ := s
  simp only at HB HG HF ⊢
  obtain ⟨n, hn⟩ : ∃ n, n = sQ.length := ⟨_, rfl⟩
  have hmx : n ≤ maxLen := by rw [hn]; exact h.len
  unfold maxLen at hmx
  rw [← hn] at HB HG HF ⊢
  have HN : Hid (n = sQ.length) := hn
  clear hn hm
  go_enter Tryz.func88, Tryz.ntmps88
  go_wp2
  go_loopw [8] (fun i wr => ∃ k : Nat, k ≤ n ∧ i = .int .i64 k ∧ Below w.heap.size w wr ∧ ∀ i, i < k → otherB L (kdHa.l (sQ.getD i ha0)) = false) (fun i _ => n - (intOf i).toNat)
  case atStart => exact ⟨0, Nat.zero_le _, rfl, Below.refl _ _, fun i hi => by omega⟩
  case round =>
    obtain ⟨k, hk, rfl, hbel, hpre⟩ := hrel
    have HP : Hid (∀ i, i < k → otherB L (kdHa.l (sQ.getD i ha0)) = false) := hpre
    clear hpre
    by_cases hlt : k < n
    · have hh := h.head (by have := HN.out; simp only; omega)
      have hkz : (k : Int) < (n : Int) := by omega
      obtain ⟨c0, c1⟩ := cellsHa (h.below hbel) (i := k) (by have := HN.out; simp only; omega)
      try simp only at hh c0 c1
      obtain rfl := hh
      have HB1 : Hid (otherB L (kdHa.l (sQ.getD k ha0)) = true → R = true) := HB.out k hlt
      have HX : Hid (otherB L (kdHa.l (sQ.getD k ha0)) = false → ∀ i, i < k + 1 → otherB L (kdHa.l (sQ.getD i ha0)) = false) := fun h i hi => by
        by_cases e : i = k
        · subst e; exact h
        · exact HP.out i (by omega)
      have hU := HF.out k hlt _ rfl wr hbel
      clear h HF HB HN
      generalize otherB L (kdHa.l (sQ.getD k ha0)) = V at hU HB1 HX
      generalize sQ.getD k ha0 = x at c0 c1 hU
      cases hv : V with
      | false =>
        rw [hv] at hU
        go_wp2_with (go_at_call 53; refine hU.mono ?_; rintro e w1 ⟨rfl, hb⟩)
        go_roundw
        case rel => exact ⟨k + 1, by omega, by go_num, Rw.next hbel hb, HX.out hv⟩
        case measure => simp [intOf]; omega
      | true =>
        rw [hv] at hU
        go_wp2_with (go_at_call 53; refine hU.mono ?_; rintro e w1 ⟨rfl, hb⟩)
        go_ret
        exact ⟨Rw.next hbel hb, _, rfl, by rw [HB1.out hv]; simp⟩
    · have he : k = n := by omega
      subst he
      clear h
      go_wp2
      go_ret
      exact ⟨hbel, _, rfl, by rw [HG.out HP.out]; rfl⟩
theorem contains_other (s : Sl HA) (b : Nat) (L : List Nv) (w : World) (h : Rd kdHa 0 w s) (hm : Mem w b L) :
    Calls Tryz.prog 51 #[.slice s.a s.Q.length s.c, .func (.func 53) #[.map (some b)] #[]] w fun e w' => e = .returned (.bool ((told kdHa s.Q).any (otherB L))) ∧ Below w.heap.size w w' := by
  have hi := index_other s b L w h hm
  generalize (told kdHa s.Q).any (otherB L) = R at hi ⊢
  clear h hm
  go_enter Tryz.func51, Tryz.ntmps51
  go_wp2_with (go_at_call 88; refine hi.mono ?_; rintro e w1 ⟨hb, r, rfl, hr⟩; have HR : Hid (decide (0 ≤ r) = R) := hr; clear hr)
  go_ret
  exact ⟨Pm.ret_bool (by rw [← HR.out]), hb⟩

set_option maxHeartbeats 4000000 in
theorem index_fwd (s : Sl Lm) (b : Nat) (L : List Nv) (w : World) (h : Rd kdLm 0 w s) (hm : Mem w b L) :
    Calls Tryz.prog 89 #[.slice s.a s.Q.length s.c, .func (.func 56) #[.map (some b)] #[]] w fun e w' => Below w.heap.size w w' ∧ ∃ r : Int, e = .returned (.int .i64 r) ∧ decide (0 ≤ r) = (told kdLm s.Q).any (fwdB L) := by
  have HB : Hid (∀ k, k < s.Q.length → fwdB L (kdLm.l (s.Q.getD k lm0)) = true → (told kdLm s.Q).any (fwdB L) = true) := fun k hk h => any_at (i := k) (d := kdLm.l lm0) (by rw [told_len]; exact hk) (by rw [show (told kdLm s.Q).getD k (kdLm.l lm0) = kdLm.l (s.Q.getD k lm0) from told_at (K := kdLm) _ _]; exact h)
  have HG : Hid ((∀ i, i < s.Q.length → fwdB L (kdLm.l (s.Q.getD i lm0)) = false) → (told kdLm s.Q).any (fwdB L) = false) := fun h => any_no (kdLm.l lm0) fun i hi => by
    rw [show (told kdLm s.Q).getD i (kdLm.l lm0) = kdLm.l (s.Q.getD i lm0) from told_at (K := kdLm) _ _]
    exact h i (by rw [told_len] at hi; exact hi)
  generalize (told kdLm s.Q).any (fwdB L) = R at HB HG ⊢
  have HF : Hid (∀ i, i < s.Q.length → ∀ x, x = s.Q.getD i lm0 → ∀ W, Below w.heap.size w W → Calls Tryz.prog 56 #[.map (some b), .agg #[.int .i64 x.k, .string x.h.s, .slice x.h.A.a x.h.A.Q.length x.h.A.c, .int .i64 x.op, .string x.p.v, .int .i64 x.p.n, .string x.p.s, .string x.q.v, .int .i64 x.q.n, .string x.q.s]] W fun e w' => e = .returned (.bool (fwdB L (kdLm.l x))) ∧ Below W.heap.size W w') := fun i hi x hx W hb => by
    have ho := h.ok i hi
    rw [hx]; exact fwd_any _ b L W ho.1.1 (hm.below hb)
  obtain ⟨sa, sb, so, sc, sQ⟩ := s
  simp only at HB HG HF ⊢
  obtain ⟨n, hn⟩ : ∃ n, n = sQ.length := ⟨_, rfl⟩
  have hmx : n ≤ maxLen := by rw [hn]; exact h.len
  unfold maxLen at hmx
  rw [← hn] at HB HG HF ⊢
  have HN : Hid (n = sQ.length) := hn
  clear hn hm
  go_enter Tryz.func89, Tryz.ntmps89
  go_wp2
  go_loopw [8] (fun i wr => ∃ k : Nat, k ≤ n ∧ i = .int .i64 k ∧ Below w.heap.size w wr ∧ ∀ i, i < k → fwdB L (kdLm.l (sQ.getD i lm0)) = false) (fun i _ => n - (intOf i).toNat)
  case atStart => exact ⟨0, Nat.zero_le _, rfl, Below.refl _ _, fun i hi => by omega⟩
  case round =>
    obtain ⟨k, hk, rfl, hbel, hpre⟩ := hrel
    have HP : Hid (∀ i, i < k → fwdB L (kdLm.l (sQ.getD i lm0)) = false) := hpre
    clear hpre
    by_cases hlt : k < n
    · have hh := h.head (by have := HN.out; simp only; omega)
      have hkz : (k : Int) < (n : Int) := by omega
      obtain ⟨c0, c1, c2, c3, c4, c5, c6, c7, c8, c9⟩ := cellsLm (h.below hbel) (i := k) (by have := HN.out; simp only; omega)
      try simp only at hh c0 c1 c2 c3 c4 c5 c6 c7 c8 c9
      obtain rfl := hh
      have HB1 : Hid (fwdB L (kdLm.l (sQ.getD k lm0)) = true → R = true) := HB.out k hlt
      have HX : Hid (fwdB L (kdLm.l (sQ.getD k lm0)) = false → ∀ i, i < k + 1 → fwdB L (kdLm.l (sQ.getD i lm0)) = false) := fun h i hi => by
        by_cases e : i = k
        · subst e; exact h
        · exact HP.out i (by omega)
      have hU := HF.out k hlt _ rfl wr hbel
      clear h HF HB HN
      generalize fwdB L (kdLm.l (sQ.getD k lm0)) = V at hU HB1 HX
      generalize sQ.getD k lm0 = x at c0 c1 c2 c3 c4 c5 c6 c7 c8 c9 hU
      cases hv : V with
      | false =>
        rw [hv] at hU
        go_wp2_with (go_at_call 56; refine hU.mono ?_; rintro e w1 ⟨rfl, hb⟩)
        go_roundw
        case rel => exact ⟨k + 1, by omega, by go_num, Rw.next hbel hb, HX.out hv⟩
        case measure => simp [intOf]; omega
      | true =>
        rw [hv] at hU
        go_wp2_with (go_at_call 56; refine hU.mono ?_; rintro e w1 ⟨rfl, hb⟩)
        go_ret
        exact ⟨Rw.next hbel hb, _, rfl, by rw [HB1.out hv]; simp⟩
    · have he : k = n := by omega
      subst he
      clear h
      go_wp2
      go_ret
      exact ⟨hbel, _, rfl, by rw [HG.out HP.out]; rfl⟩
theorem contains_fwd (s : Sl Lm) (b : Nat) (L : List Nv) (w : World) (h : Rd kdLm 0 w s) (hm : Mem w b L) :
    Calls Tryz.prog 55 #[.slice s.a s.Q.length s.c, .func (.func 56) #[.map (some b)] #[]] w fun e w' => e = .returned (.bool ((told kdLm s.Q).any (fwdB L))) ∧ Below w.heap.size w w' := by
  have hi := index_fwd s b L w h hm
  generalize (told kdLm s.Q).any (fwdB L) = R at hi ⊢
  clear h hm
  go_enter Tryz.func55, Tryz.ntmps55
  go_wp2_with (go_at_call 89; refine hi.mono ?_; rintro e w1 ⟨hb, r, rfl, hr⟩; have HR : Hid (decide (0 ≤ r) = R) := hr; clear hr)
  go_ret
  exact ⟨Pm.ret_bool (by rw [← HR.out]), hb⟩

set_option maxHeartbeats 4000000 in
theorem index_news (s : Sl Lm) (b : Nat) (L : List Nv) (w : World) (h : Rd kdLm 0 w s) (hm : Mem w b L) :
    Calls Tryz.prog 89 #[.slice s.a s.Q.length s.c, .func (.func 92) #[.map (some b)] #[]] w fun e w' => Below w.heap.size w w' ∧ ∃ r : Int, e = .returned (.int .i64 r) ∧ decide (0 ≤ r) = (told kdLm s.Q).any (nwsB L) := by
  have HB : Hid (∀ k, k < s.Q.length → nwsB L (kdLm.l (s.Q.getD k lm0)) = true → (told kdLm s.Q).any (nwsB L) = true) := fun k hk h => any_at (i := k) (d := kdLm.l lm0) (by rw [told_len]; exact hk) (by rw [show (told kdLm s.Q).getD k (kdLm.l lm0) = kdLm.l (s.Q.getD k lm0) from told_at (K := kdLm) _ _]; exact h)
  have HG : Hid ((∀ i, i < s.Q.length → nwsB L (kdLm.l (s.Q.getD i lm0)) = false) → (told kdLm s.Q).any (nwsB L) = false) := fun h => any_no (kdLm.l lm0) fun i hi => by
    rw [show (told kdLm s.Q).getD i (kdLm.l lm0) = kdLm.l (s.Q.getD i lm0) from told_at (K := kdLm) _ _]
    exact h i (by rw [told_len] at hi; exact hi)
  generalize (told kdLm s.Q).any (nwsB L) = R at HB HG ⊢
  have HF : Hid (∀ i, i < s.Q.length → ∀ x, x = s.Q.getD i lm0 → ∀ W, Below w.heap.size w W → Calls Tryz.prog 92 #[.map (some b), .agg #[.int .i64 x.k, .string x.h.s, .slice x.h.A.a x.h.A.Q.length x.h.A.c, .int .i64 x.op, .string x.p.v, .int .i64 x.p.n, .string x.p.s, .string x.q.v, .int .i64 x.q.n, .string x.q.s]] W fun e w' => e = .returned (.bool (nwsB L (kdLm.l x))) ∧ Below W.heap.size W w') := fun i hi x hx W hb => by
    have ho := h.ok i hi
    rw [hx]; exact news_any _ b L W ho.1.1 (hm.below hb)
  obtain ⟨sa, sb, so, sc, sQ⟩ := s
  simp only at HB HG HF ⊢
  obtain ⟨n, hn⟩ : ∃ n, n = sQ.length := ⟨_, rfl⟩
  have hmx : n ≤ maxLen := by rw [hn]; exact h.len
  unfold maxLen at hmx
  rw [← hn] at HB HG HF ⊢
  have HN : Hid (n = sQ.length) := hn
  clear hn hm
  go_enter Tryz.func89, Tryz.ntmps89
  go_wp2
  go_loopw [8] (fun i wr => ∃ k : Nat, k ≤ n ∧ i = .int .i64 k ∧ Below w.heap.size w wr ∧ ∀ i, i < k → nwsB L (kdLm.l (sQ.getD i lm0)) = false) (fun i _ => n - (intOf i).toNat)
  case atStart => exact ⟨0, Nat.zero_le _, rfl, Below.refl _ _, fun i hi => by omega⟩
  case round =>
    obtain ⟨k, hk, rfl, hbel, hpre⟩ := hrel
    have HP : Hid (∀ i, i < k → nwsB L (kdLm.l (sQ.getD i lm0)) = false) := hpre
    clear hpre
    by_cases hlt : k < n
    · have hh := h.head (by have := HN.out; simp only; omega)
      have hkz : (k : Int) < (n : Int) := by omega
      obtain ⟨c0, c1, c2, c3, c4, c5, c6, c7, c8, c9⟩ := cellsLm (h.below hbel) (i := k) (by have := HN.out; simp only; omega)
      try simp only at hh c0 c1 c2 c3 c4 c5 c6 c7 c8 c9
      obtain rfl := hh
      have HB1 : Hid (nwsB L (kdLm.l (sQ.getD k lm0)) = true → R = true) := HB.out k hlt
      have HX : Hid (nwsB L (kdLm.l (sQ.getD k lm0)) = false → ∀ i, i < k + 1 → nwsB L (kdLm.l (sQ.getD i lm0)) = false) := fun h i hi => by
        by_cases e : i = k
        · subst e; exact h
        · exact HP.out i (by omega)
      have hU := HF.out k hlt _ rfl wr hbel
      clear h HF HB HN
      generalize nwsB L (kdLm.l (sQ.getD k lm0)) = V at hU HB1 HX
      generalize sQ.getD k lm0 = x at c0 c1 c2 c3 c4 c5 c6 c7 c8 c9 hU
      cases hv : V with
      | false =>
        rw [hv] at hU
        go_wp2_with (go_at_call 92; refine hU.mono ?_; rintro e w1 ⟨rfl, hb⟩)
        go_roundw
        case rel => exact ⟨k + 1, by omega, by go_num, Rw.next hbel hb, HX.out hv⟩
        case measure => simp [intOf]; omega
      | true =>
        rw [hv] at hU
        go_wp2_with (go_at_call 92; refine hU.mono ?_; rintro e w1 ⟨rfl, hb⟩)
        go_ret
        exact ⟨Rw.next hbel hb, _, rfl, by rw [HB1.out hv]; simp⟩
    · have he : k = n := by omega
      subst he
      clear h
      go_wp2
      go_ret
      exact ⟨hbel, _, rfl, by rw [HG.out HP.out]; rfl⟩
theorem contains_news (s : Sl Lm) (b : Nat) (L : List Nv) (w : World) (h : Rd kdLm 0 w s) (hm : Mem w b L) :
    Calls Tryz.prog 55 #[.slice s.a s.Q.length s.c, .func (.func 92) #[.map (some b)] #[]] w fun e w' => e = .returned (.bool ((told kdLm s.Q).any (nwsB L))) ∧ Below w.heap.size w w' := by
  have hi := index_news s b L w h hm
  generalize (told kdLm s.Q).any (nwsB L) = R at hi ⊢
  clear h hm
  go_enter Tryz.func55, Tryz.ntmps55
  go_wp2_with (go_at_call 89; refine hi.mono ?_; rintro e w1 ⟨hb, r, rfl, hr⟩; have HR : Hid (decide (0 ≤ r) = R) := hr; clear hr)
  go_ret
  exact ⟨Pm.ret_bool (by rw [← HR.out]), hb⟩

end Go.Proofs.YtljlgjgfmgilaaaGreat.Nq
