/-
  The specification's RelAdd and RelUnion.
-/
import Derived.Test.YtbjbehphdkaahaaRy
import Derived.Test.YtbjbehphdkaahaaRx
namespace Go.Proofs.Ytbjbehphdkaahaa.Rl
set_option maxRecDepth 8000
set_option linter.unusedSimpArgs false
set_option linter.unusedVariables false
open Go Go.RowKit
open Num Word Pl Rp

/-- Block T is none of those that a list of rows lies in. -/
def Aw (T b : Nat) (Q : List Rm) : Prop := (Q.length = 0 ∨ b ≠ T) ∧ ∀ r ∈ Q, r.l.length = 0 ∨ r.b ≠ T
theorem aw_put {T b bb N : Nat} {Q F : List Rm} (h : Aw T b Q) (hT : T < N) (h1 : (bb = b ∧ 0 < Q.length) ∨ F.length = 0 ∨ N ≤ bb) (h2 : ∀ r ∈ F, r ∈ Q ∨ r.l.length = 0 ∨ N ≤ r.b) : Aw T bb F := by
  refine ⟨?_, fun r hr => ?_⟩
  · rcases h1 with ⟨rfl, hp⟩ | h1 | h1
    · exact .inr (h.1.resolve_left (by omega))
    · exact .inl h1
    · exact .inr (by omega)
  · rcases h2 r hr with h2 | h2 | h2
    · exact h.2 r h2
    · exact .inl h2
    · exact .inr (by omega)
theorem aw_own {w : World} {lo hi : Nat} {a : Option Addr} {b T : Nat} {Q : List Rm} (h : Own w lo hi a b Q) (hT : T < lo ∨ w.heap.size ≤ T) : Aw T b Q := by
  refine ⟨h.blk.imp id fun ⟨h1, cs, h2⟩ => by have := blk_lt h2; omega, fun r hr => ?_⟩
  by_cases h0 : r.l.length = 0
  · exact .inl h0
  · obtain ⟨_, h1, _, h2⟩ := h.each r hr h0
    have := h2.lt
    exact .inr (by omega)
theorem rd_set {w : World} {a : Option Addr} {b off : Nat} {Q : List Rm} {p : Addr} {u : Value} (h : Rd w a b off Q) (hA : Aw p.block b Q) : Rd (w.setCell p u) a b off Q :=
  h.keep (hA.1.imp id fun e => Below.heap_setCell _ _ _ _ e) (fun r hr => (hA.2 r hr).imp id fun e => Below.heap_setCell _ _ _ _ e)
/-- A list of rows lies in blocks from N on. -/
def Up (N b : Nat) (Q : List Rm) : Prop := (Q.length = 0 ∨ N ≤ b) ∧ ∀ r ∈ Q, r.l.length = 0 ∨ N ≤ r.b
theorem up_nil (N b : Nat) : Up N b [] := ⟨.inl rfl, fun r hr => by simp at hr⟩
theorem up_put {N b bb M : Nat} {Q F : List Rm} (h : Up N b Q) (hM : N ≤ M) (h1 : (bb = b ∧ 0 < Q.length) ∨ F.length = 0 ∨ M ≤ bb) (h2 : ∀ r ∈ F, r ∈ Q ∨ r.l.length = 0 ∨ M ≤ r.b) : Up N bb F := by
  refine ⟨?_, fun r hr => ?_⟩
  · rcases h1 with ⟨rfl, hp⟩ | h1 | h1
    · exact .inr (h.1.resolve_left (by omega))
    · exact .inl h1
    · exact .inr (by omega)
  · rcases h2 r hr with h2 | h2 | h2
    · exact h.2 r h2
    · exact .inl h2
    · exact .inr (by omega)
theorem up_own {w : World} {lo hi : Nat} {a : Option Addr} {b N : Nat} {Q : List Rm} (h : Own w lo hi a b Q) (hN : N ≤ lo) : Up N b Q := by
  refine ⟨h.blk.imp id fun ⟨h1, _⟩ => Nat.le_trans hN h1, fun r hr => ?_⟩
  by_cases h0 : r.l.length = 0
  · exact .inl h0
  · exact .inr (Nat.le_trans hN (h.each r hr h0).2.1)
theorem aw_up {T N b : Nat} {Q : List Rm} (h : Up N b Q) (hT : T < N) : Aw T b Q := ⟨h.1.imp id fun q => by omega, fun r hr => (h.2 r hr).imp id fun q => by omega⟩
/-- A relation that reads so is handed back, and a code. -/
def ResCS (w : World) (ar : Int) (X : List RowL) (c : Value) (e : Ending) (w' : World) : Prop := ∃ A bb oo cc F, e = .returned (.tuple #[.agg #[.int .i64 ar, .slice A (List.length F) cc], c]) ∧ Rd w' A bb oo F ∧ said F = X ∧ Below w.heap.size w w' ∧ Up w.heap.size bb F
theorem resCS_of {w : World} {ar : Int} {X : List RowL} {c : Value} {e : Ending} {w' : World} (h : ResC w ar X c e w') (hX : X.length ≤ 100000) : ResCS w ar X c e w' := by
  obtain ⟨v, F, rfl, hot, sF, hb⟩ := h
  obtain ⟨a, g, cap, rfl, ho⟩ := hot.form (by have := congrArg List.length sF; rw [said_len] at this; omega)
  exact ⟨a, g, 0, cap, F, rfl, ho.rd, sF, hb, up_own ho (Nat.le_refl _)⟩
theorem put_len (R : List RowL) (m : RowL) : (putL R m).length ≤ R.length + 1 := by
  have : ∀ R : List RowL, (insL m R).length = R.length + 1 := by
    intro R
    induction R with
    | nil => rfl
    | cons y t ih => rw [insL]; split <;> simp [ih]
  unfold putL
  split
  · omega
  · rw [this]; exact Nat.le_refl _
theorem put_len_ge (R : List RowL) (m : RowL) : R.length ≤ (putL R m).length := by
  have : ∀ R : List RowL, (insL m R).length = R.length + 1 := by
    intro R
    induction R with
    | nil => rfl
    | cons y t ih => rw [insL]; split <;> simp [ih]
  unfold putL
  split
  · exact Nat.le_refl _
  · rw [this]; omega

set_option maxHeartbeats 8000000 in
theorem addS_any (x : Int) (a a' : Option Addr) (b off cap b' off' cap' : Nat) (Q : List Rm) (m : RowL) (w : World) (h : Rd w a b off Q) (h' : Vl.Rd w a' b' off' m) (ar : Int) (X : List RowL) (c : Int) (hA : if addB x (said Q) m = true then (if (putL (said Q) m).length ≤ 300 then ar = x ∧ X = putL (said Q) m ∧ c = 0 else ar = 0 ∧ X = [] ∧ c = 2) else ar = 0 ∧ X = [] ∧ c = 1) :
    Calls Try.prog 21 #[.agg #[.int .i64 x, .slice a Q.length cap], .agg #[.slice a' m.length cap']] w (ResCS w ar X (.int .i64 c)) := by
  obtain ⟨W1, hW1⟩ : ∃ W1, W1 = ((w.alloc (.cells #[.int .i64 x, .slice a Q.length cap] 25)).alloc (.cells #[.slice a' m.length cap'] 34)).alloc (.cells #[.int .i64 0, .slice none 0 0] 25) := ⟨_, rfl⟩
  have B1 : Below w.heap.size w W1 := by subst hW1; exact Rw.next (Rw.next (below_alloc1 _ _) (below_alloc1 _ _)) (below_alloc1 _ _)
  have kT : W1.heap[w.heap.size]? = some (.cells #[.int .i64 x, .slice a Q.length cap] 25 (0, 0)) := by subst hW1; rw [at_old (by simp <;> omega), at_old (by simp), at_new rfl]
  have kU : W1.heap[w.heap.size + 1]? = some (.cells #[.slice a' m.length cap'] 34 (0, 0)) := by subst hW1; rw [at_old (by simp), at_new (by simp)]
  have kR : W1.heap[w.heap.size + 1 + 1]? = some (.cells #[.int .i64 0, .slice none 0 0] 25 (0, 0)) := by subst hW1; exact at_new (by simp)
  have hR := fun W h => relS_any x a b off cap Q W h
  have hO := fun W h => Vl.rowS_any a' b' off' cap' m W h
  unfold addB at hA
  cases hr : relB x (said Q) with
  | false =>
    rw [hr] at hA hR
    simp only [Bool.false_and, Bool.false_eq_true, if_false] at hA
    obtain ⟨rfl, rfl, rfl⟩ := hA
    go_enter Try.func21, Try.ntmps21
    go_wp2_with (first
      | (go_at_call 25; rw [← hW1]; clear hW1; refine (hR _ (h.below B1)).mono ?_; rintro e w1 ⟨rfl, hb⟩; replace B1 := Rw.next B1 hb; replace kT := (hb.block _ (blk_lt kT)).trans kT; replace kU := (hb.block _ (blk_lt kU)).trans kU; replace kR := (hb.block _ (blk_lt kR)).trans kR; clear hb; obtain ⟨p0, p1⟩ := two kT; have u0 := one kU; obtain ⟨r0, r1⟩ := two kR; have fR := Vl.free kR))
    refine bodyPost_ret (v := .tuple #[.agg #[.int .i64 0, .slice none 0 0], .int .i64 1]) (by simp [results, Try.results21, go_sem, r0, r1]) rfl ⟨none, 0, 0, 0, [], rfl, rd_nil _ _ _ _, rfl, ?_, up_nil _ _⟩
    repeat (first | with_reducible exact B1 | refine Vl.bset ?_ (by simp <;> omega))
  | true =>
  cases ho : Vl.rowB m with
  | false =>
    rw [hr] at hA hR
    rw [ho] at hA hO
    simp only [Bool.false_and, Bool.and_false, Bool.false_eq_true, if_false] at hA
    obtain ⟨rfl, rfl, rfl⟩ := hA
    go_enter Try.func21, Try.ntmps21
    go_wp2_with (first
      | (go_at_call 25; rw [← hW1]; clear hW1; refine (hR _ (h.below B1)).mono ?_; rintro e w1 ⟨rfl, hb⟩; replace B1 := Rw.next B1 hb; replace kT := (hb.block _ (blk_lt kT)).trans kT; replace kU := (hb.block _ (blk_lt kU)).trans kU; replace kR := (hb.block _ (blk_lt kR)).trans kR; clear hb; obtain ⟨p0, p1⟩ := two kT; have u0 := one kU; obtain ⟨r0, r1⟩ := two kR; have fR := Vl.free kR)
      | (go_at_call 52; refine (hO _ (h'.below B1)).mono ?_; rintro e w2 ⟨rfl, hb⟩; clear p0 p1 u0 r0 r1 fR; replace B1 := Rw.next B1 hb; replace kT := (hb.block _ (blk_lt kT)).trans kT; replace kU := (hb.block _ (blk_lt kU)).trans kU; replace kR := (hb.block _ (blk_lt kR)).trans kR; clear hb; obtain ⟨p0, p1⟩ := two kT; have u0 := one kU; obtain ⟨r0, r1⟩ := two kR; have fR := Vl.free kR))
    refine bodyPost_ret (v := .tuple #[.agg #[.int .i64 0, .slice none 0 0], .int .i64 1]) (by simp [results, Try.results21, go_sem, r0, r1]) rfl ⟨none, 0, 0, 0, [], rfl, rd_nil _ _ _ _, rfl, ?_, up_nil _ _⟩
    repeat (first | with_reducible exact B1 | refine Vl.bset ?_ (by simp <;> omega))
  | true =>
  by_cases hd : (m.length : Int) = x
  case neg =>
    rw [hr, ho, decide_eq_false hd] at hA
    rw [hr] at hR
    rw [ho] at hO
    have hd1 : ((m.length : Int) != x) = true := by simpa using hd
    simp only [Bool.and_false, Bool.false_eq_true, if_false] at hA
    obtain ⟨rfl, rfl, rfl⟩ := hA
    clear hd
    go_enter Try.func21, Try.ntmps21
    go_wp2_with (first
      | (go_at_call 25; rw [← hW1]; clear hW1; refine (hR _ (h.below B1)).mono ?_; rintro e w1 ⟨rfl, hb⟩; replace B1 := Rw.next B1 hb; replace kT := (hb.block _ (blk_lt kT)).trans kT; replace kU := (hb.block _ (blk_lt kU)).trans kU; replace kR := (hb.block _ (blk_lt kR)).trans kR; clear hb; obtain ⟨p0, p1⟩ := two kT; have u0 := one kU; obtain ⟨r0, r1⟩ := two kR; have fR := Vl.free kR)
      | (go_at_call 52; refine (hO _ (h'.below B1)).mono ?_; rintro e w2 ⟨rfl, hb⟩; clear p0 p1 u0 r0 r1 fR; replace B1 := Rw.next B1 hb; replace kT := (hb.block _ (blk_lt kT)).trans kT; replace kU := (hb.block _ (blk_lt kU)).trans kU; replace kR := (hb.block _ (blk_lt kR)).trans kR; clear hb; obtain ⟨p0, p1⟩ := two kT; have u0 := one kU; obtain ⟨r0, r1⟩ := two kR; have fR := Vl.free kR))
    refine bodyPost_ret (v := .tuple #[.agg #[.int .i64 0, .slice none 0 0], .int .i64 1]) (by simp [results, Try.results21, go_sem, r0, r1]) rfl ⟨none, 0, 0, 0, [], rfl, rd_nil _ _ _ _, rfl, ?_, up_nil _ _⟩
    repeat (first | with_reducible exact B1 | refine Vl.bset ?_ (by simp <;> omega))
  case pos =>
    have h4 : Q.length ≤ 100000 := by have := (relP_of hr).few; rw [said_len] at this; omega
    have h300 : Q.length ≤ 300 := by have := (relP_of hr).few; rwa [said_len] at this
    rw [hr, ho, decide_eq_true hd] at hA
    rw [hr] at hR
    rw [ho] at hO
    have hd1 : ((m.length : Int) != x) = false := by simpa using hd
    simp only [Bool.and_true, if_true] at hA
    clear hd hr ho
    by_cases hf : (putL (said Q) m).length ≤ 300
    · rw [if_pos hf] at hA
      obtain ⟨rfl, rfl, rfl⟩ := hA
      have HF3 : Hid ((putL (said Q) m).length ≤ 300) := hf
      clear hf
      go_enter Try.func21, Try.ntmps21
      go_wp2_with (first
        | (go_at_call 25; rw [← hW1]; clear hW1; refine (hR _ (h.below B1)).mono ?_; rintro e w1 ⟨rfl, hb⟩; replace B1 := Rw.next B1 hb; replace kT := (hb.block _ (blk_lt kT)).trans kT; replace kU := (hb.block _ (blk_lt kU)).trans kU; replace kR := (hb.block _ (blk_lt kR)).trans kR; clear hb; obtain ⟨p0, p1⟩ := two kT; have u0 := one kU; obtain ⟨r0, r1⟩ := two kR; have fR := Vl.free kR)
        | (go_at_call 52; refine (hO _ (h'.below B1)).mono ?_; rintro e w2 ⟨rfl, hb⟩; clear p0 p1 u0 r0 r1 fR; replace B1 := Rw.next B1 hb; replace kT := (hb.block _ (blk_lt kT)).trans kT; replace kU := (hb.block _ (blk_lt kU)).trans kU; replace kR := (hb.block _ (blk_lt kR)).trans kR; clear hb; obtain ⟨p0, p1⟩ := two kT; have u0 := one kU; obtain ⟨r0, r1⟩ := two kR; have fR := Vl.free kR)
        | (go_at_call 45; refine (lcopy_any ar a b off cap Q _ (h.below B1) h4).mono ?_; rintro e w3 ⟨v3, F3, rfl, hot, s3, hb⟩; have lR := blk_lt kR; have s23 := hb.size; clear p0 p1 u0 r0 r1 fR; replace B1 := Rw.next B1 hb; replace kT := (hb.block _ (blk_lt kT)).trans kT; replace kU := (hb.block _ (blk_lt kU)).trans kU; replace kR := (hb.block _ (blk_lt kR)).trans kR; clear hb; obtain ⟨va, g3, vc, rfl, own3⟩ := hot.form (by have := congrArg List.length s3; rw [said_len, said_len] at this; omega); clear hot; have lU := blk_lt kU; have HS3 : Hid (said F3 = said Q) := s3; clear s3; obtain ⟨p0, p1⟩ := two kT; have u0 := one kU; obtain ⟨r0, r1⟩ := two kR; have fR := Vl.free kR)
        | (go_at_call 46; go_loud (obtain ⟨W4, hW4⟩ : ∃ W4, W4 = w3.alloc (.cells #[.int .i64 ar, .slice va F3.length vc] 25) := ⟨_, rfl⟩; rw [← hW4]; have kX : W4.heap[w3.heap.size]? = some (.cells #[.int .i64 ar, .slice va F3.length vc] 25 (0, 0)) := (by subst hW4; exact at_new rfl); have hb : Below w3.heap.size w3 W4 := (by subst hW4; exact below_alloc1 _ _); clear hW4 lU; clear p0 p1 u0 r0 r1 fR; replace B1 := Rw.next B1 hb; replace kT := (hb.block _ (blk_lt kT)).trans kT; replace kU := (hb.block _ (blk_lt kU)).trans kU; replace kR := (hb.block _ (blk_lt kR)).trans kR; have rQ3 := own3.rd.below hb; clear hb; refine (put_any va a' g3 0 vc b' off' cap' F3 m W4 rQ3 (h'.below B1) (by have e := congrArg List.length HS3.out; rw [said_len, said_len] at e; omega)).mono ?_; rw [HS3.out]; rintro e w5 ⟨A, bb, oo, cc, F, rfl, rF, sF, hb, hb1, hb2⟩; have uF : Up w.heap.size bb F := up_put (up_own own3 (by omega)) B1.size hb1 hb2; have aX : Aw w3.heap.size bb F := aw_put (aw_own own3 (.inr (Nat.le_refl _))) (blk_lt kX) hb1 hb2; have aR : Aw (w.heap.size + 1 + 1) bb F := aw_put (aw_own own3 (.inl lR)) (blk_lt kR) hb1 hb2; replace kX := (hb.block _ (blk_lt kX)).trans kX; replace B1 := Rw.next B1 hb; replace kT := (hb.block _ (blk_lt kT)).trans kT; replace kU := (hb.block _ (blk_lt kU)).trans kU; replace kR := (hb.block _ (blk_lt kR)).trans kR; clear hb hb1 hb2 rQ3; obtain ⟨p0, p1⟩ := two kT; have u0 := one kU; obtain ⟨r0, r1⟩ := two kR; have fR := Vl.free kR; obtain ⟨x0, x1⟩ := two kX; have fX := Vl.free kX; have HSF : Hid (said F = _) := sF; clear sF; have hne : ¬ (w3.heap.size = w.heap.size + 1 + 1) := (by omega); have hne2 : ¬ (w.heap.size + 1 + 1 = w3.heap.size) := (by omega); have hfl : ¬ (300 : Int) < (F.length : Int) := (by have e := congrArg List.length HSF.out; rw [said_len] at e; have := HF3.out; omega))))
      refine bodyPost_ret (v := .tuple #[.agg #[.int .i64 ar, .slice A F.length cc], .int .i64 0]) (by simp [results, Try.results21, go_sem, r0, r1, hne, hne2]) rfl ⟨A, bb, oo, cc, F, rfl, ?_, HSF.out, ?_, uF⟩
      · repeat (first | with_reducible exact rF | refine rd_set ?_ (by first | exact aX | exact aR))
      · repeat (first | with_reducible exact B1 | refine Vl.bset ?_ (by simp <;> omega))
    · rw [if_neg hf] at hA
      obtain ⟨rfl, rfl, rfl⟩ := hA
      have HF3 : Hid (¬ (putL (said Q) m).length ≤ 300) := hf
      clear hf
      go_enter Try.func21, Try.ntmps21
      go_wp2_with (first
        | (go_at_call 25; rw [← hW1]; clear hW1; refine (hR _ (h.below B1)).mono ?_; rintro e w1 ⟨rfl, hb⟩; replace B1 := Rw.next B1 hb; replace kT := (hb.block _ (blk_lt kT)).trans kT; replace kU := (hb.block _ (blk_lt kU)).trans kU; replace kR := (hb.block _ (blk_lt kR)).trans kR; clear hb; obtain ⟨p0, p1⟩ := two kT; have u0 := one kU; obtain ⟨r0, r1⟩ := two kR; have fR := Vl.free kR)
        | (go_at_call 52; refine (hO _ (h'.below B1)).mono ?_; rintro e w2 ⟨rfl, hb⟩; clear p0 p1 u0 r0 r1 fR; replace B1 := Rw.next B1 hb; replace kT := (hb.block _ (blk_lt kT)).trans kT; replace kU := (hb.block _ (blk_lt kU)).trans kU; replace kR := (hb.block _ (blk_lt kR)).trans kR; clear hb; obtain ⟨p0, p1⟩ := two kT; have u0 := one kU; obtain ⟨r0, r1⟩ := two kR; have fR := Vl.free kR)
        | (go_at_call 45; refine (lcopy_any x a b off cap Q _ (h.below B1) h4).mono ?_; rintro e w3 ⟨v3, F3, rfl, hot, s3, hb⟩; have lR := blk_lt kR; have s23 := hb.size; clear p0 p1 u0 r0 r1 fR; replace B1 := Rw.next B1 hb; replace kT := (hb.block _ (blk_lt kT)).trans kT; replace kU := (hb.block _ (blk_lt kU)).trans kU; replace kR := (hb.block _ (blk_lt kR)).trans kR; clear hb; obtain ⟨va, g3, vc, rfl, own3⟩ := hot.form (by have := congrArg List.length s3; rw [said_len, said_len] at this; omega); clear hot; have lU := blk_lt kU; have HS3 : Hid (said F3 = said Q) := s3; clear s3; obtain ⟨p0, p1⟩ := two kT; have u0 := one kU; obtain ⟨r0, r1⟩ := two kR; have fR := Vl.free kR)
        | (go_at_call 46; go_loud (obtain ⟨W4, hW4⟩ : ∃ W4, W4 = w3.alloc (.cells #[.int .i64 x, .slice va F3.length vc] 25) := ⟨_, rfl⟩; rw [← hW4]; have kX : W4.heap[w3.heap.size]? = some (.cells #[.int .i64 x, .slice va F3.length vc] 25 (0, 0)) := (by subst hW4; exact at_new rfl); have hb : Below w3.heap.size w3 W4 := (by subst hW4; exact below_alloc1 _ _); clear hW4 lU; clear p0 p1 u0 r0 r1 fR; replace B1 := Rw.next B1 hb; replace kT := (hb.block _ (blk_lt kT)).trans kT; replace kU := (hb.block _ (blk_lt kU)).trans kU; replace kR := (hb.block _ (blk_lt kR)).trans kR; have rQ3 := own3.rd.below hb; clear hb; refine (put_any va a' g3 0 vc b' off' cap' F3 m W4 rQ3 (h'.below B1) (by have e := congrArg List.length HS3.out; rw [said_len, said_len] at e; omega)).mono ?_; rw [HS3.out]; rintro e w5 ⟨A, bb, oo, cc, F, rfl, rF, sF, hb, hb1, hb2⟩; have uF : Up w.heap.size bb F := up_put (up_own own3 (by omega)) B1.size hb1 hb2; have aX : Aw w3.heap.size bb F := aw_put (aw_own own3 (.inr (Nat.le_refl _))) (blk_lt kX) hb1 hb2; have aR : Aw (w.heap.size + 1 + 1) bb F := aw_put (aw_own own3 (.inl lR)) (blk_lt kR) hb1 hb2; replace kX := (hb.block _ (blk_lt kX)).trans kX; replace B1 := Rw.next B1 hb; replace kT := (hb.block _ (blk_lt kT)).trans kT; replace kU := (hb.block _ (blk_lt kU)).trans kU; replace kR := (hb.block _ (blk_lt kR)).trans kR; clear hb hb1 hb2 rQ3; obtain ⟨p0, p1⟩ := two kT; have u0 := one kU; obtain ⟨r0, r1⟩ := two kR; have fR := Vl.free kR; obtain ⟨x0, x1⟩ := two kX; have fX := Vl.free kX; have HSF : Hid (said F = _) := sF; clear sF; have hne : ¬ (w3.heap.size = w.heap.size + 1 + 1) := (by omega); have hne2 : ¬ (w.heap.size + 1 + 1 = w3.heap.size) := (by omega); have hfl : (300 : Int) < (F.length : Int) := (by have e := congrArg List.length HSF.out; rw [said_len] at e; have := HF3.out; omega))))
      refine bodyPost_ret (v := .tuple #[.agg #[.int .i64 0, .slice none 0 0], .int .i64 2]) (by simp [results, Try.results21, go_sem, r0, r1, hne, hne2]) rfl ⟨none, 0, 0, 0, [], rfl, rd_nil _ _ _ _, rfl, ?_, up_nil _ _⟩
      repeat (first | with_reducible exact B1 | refine Vl.bset ?_ (by simp <;> omega))

end Go.Proofs.Ytbjbehphdkaahaa.Rl
