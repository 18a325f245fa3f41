/-
  A relation of a store, by its name.
-/
import Derived.Test.YtecnbenlmbppbaaMr
import Derived.Test.YtecnbenlmbppbaaRo
import Derived.Test.YtecnbenlmbppbaaMda
namespace Go.Proofs.Ytecnbenlmbppbaa.Mp
set_option maxRecDepth 8000
set_option linter.unusedSimpArgs false
set_option linter.unusedVariables false
open Go Go.ChangeShapes Go.WideShapes Go.RowKit
open Num Word Pl Rp
open Rl (Rm rm0 said)
open St (Nm nm0 NL told storeB)

set_option maxHeartbeats 4000000 in
theorem copyRel_any (ar : Int) (a : Option Addr) (b off cap : Nat) (Q : List Rm) (w : World) (h : Rl.Rd w a b off Q) (h4 : Q.length ≤ 100000) :
    Calls Try.prog 39 #[.agg #[.int .i64 ar, .slice a Q.length cap]] w (Rl.ResL w ar (said Q)) := by
  obtain ⟨W1, hW1⟩ : ∃ W1, W1 = (w.alloc (.cells #[.int .i64 ar, .slice a Q.length cap] 35)).alloc (.cells #[.int .i64 0, .slice none 0 0] 35) := ⟨_, rfl⟩
  have B1 : Below w.heap.size w W1 := by subst hW1; exact below_alloc2 _ _ _
  have k0 : W1.heap[w.heap.size]? = some (.cells #[.int .i64 ar, .slice a Q.length cap] 35 (0, 0)) := by subst hW1; rw [at_old (by simp), at_new rfl]
  have k1 : W1.heap[w.heap.size + 1]? = some (.cells #[.int .i64 0, .slice none 0 0] 35 (0, 0)) := by subst hW1; exact at_new (by simp)
  have r0 := h.below B1
  obtain ⟨p0, p1⟩ := two k0
  obtain ⟨z0, z1⟩ := two k1
  have f1 := Vl.free k1
  clear h
  go_enter Try.func39, Try.ntmps39
  go_wp2
  rw [← hW1]
  clear hW1
  go_region_held3 (fun w' => w'.cell? ⟨w.heap.size, 0, none⟩ = some (.int .i64 ar) ∧ w'.cell? ⟨w.heap.size, 1, none⟩ = some (.slice a Q.length cap)) (go_keep) (first
    | (go_at_call 61; clear p0 p1 z0 z1 f1; refine (Rl.rowSet_any _ (.int .i64 0) _ _ _ _).mono ?_; rintro e w2 ⟨rfl, hb⟩; replace hb := Rw.next ((Below.refl _ _).drew) hb; replace B1 := Rw.next B1 hb; replace k0 := (hb.block _ (blk_lt k0)).trans k0; replace k1 := (hb.block _ (blk_lt k1)).trans k1; replace r0 := r0.below hb; clear hb; obtain ⟨p0, p1⟩ := two k0; obtain ⟨z0, z1⟩ := two k1; have f1 := Vl.free k1)
    | (go_at_call 67; clear p0 p1 z0 z1 f1; refine (Rl.relOf_any _ _ _ _ _ _ _ r0 h4).mono ?_; rintro e w3 ⟨v, F, rfl, hot, sF, hb⟩; obtain ⟨ua, un, uc, rfl⟩ := hot.og.slice; replace B1 := Rw.next B1 hb; replace k0 := (hb.block _ (blk_lt k0)).trans k0; have hs1 := blk_lt k1; replace k1 := (hb.block _ (blk_lt k1)).trans k1; have sb := hb.size; clear hb; obtain ⟨p0, p1⟩ := two k0; obtain ⟨z0, z1⟩ := two k1; have f1 := Vl.free k1; have HS : Hid (said F = said Q) := sF; clear sF))
  go_wp2
  have hs := B1.size
  refine bodyPost_ret (v := .agg #[.int .i64 ar, .slice ua un uc]) (by simp [results, Try.results39, go_sem, z0, z1]) rfl ⟨.slice ua un uc, F, rfl, ?_, HS.out, ?_⟩
  · refine Rl.OT.mono (B := w2.heap.size) ?_ (by omega)
    refine hot.keep fun z hz hzB => ?_
    repeat (first | rfl | refine (Below.heap_setCell _ _ _ _ (by simp; omega)).trans ?_)
  · repeat (first | with_reducible exact B1 | refine Vl.bset ?_ (by simp <;> omega))

/-- What is found at a name. -/
def GA (N : List NL) (s : ByteArray) (ar : Int) (X : List RowL) (t : Bool) : Prop :=
  (storeB N = true ∧ ∃ x ∈ N, x.1 = s ∧ ar = x.2.1 ∧ X = x.2.2 ∧ t = true) ∨ ((storeB N = false ∨ ∀ x ∈ N, x.1 ≠ s) ∧ ar = 0 ∧ X = [] ∧ t = false)
theorem relP_small {x : Int} {R : List RowL} (h : RelP x R) : R.length ≤ 300 ∧ ∀ l ∈ R, l.length ≤ 6 :=
  ⟨h.few, fun l hl => by have := h.fit l hl; have := h.hi; omega⟩
theorem GA_some (N : List NL) (s : ByteArray) : ∃ ar X t, GA N s ar X t ∧ (X.length ≤ 300 ∧ ∀ l ∈ X, l.length ≤ 6) := by
  by_cases hB : storeB N = true
  · by_cases hx : ∃ x ∈ N, x.1 = s
    · obtain ⟨x, hx, e⟩ := hx
      exact ⟨x.2.1, x.2.2, true, .inl ⟨hB, x, hx, e, rfl, rfl, rfl⟩, relP_small (store_one hB hx).2⟩
    · exact ⟨0, [], false, .inr ⟨.inr fun x hx' e => hx ⟨x, hx', e⟩, rfl, rfl, rfl⟩, by simp⟩
  · exact ⟨0, [], false, .inr ⟨.inl (by simpa using hB), rfl, rfl, rfl⟩, by simp⟩
def ResT (w : World) (ar : Int) (R : List RowL) (t : Bool) (e : Ending) (w' : World) : Prop := ∃ v F, e = .returned (.tuple #[.agg #[.int .i64 ar, v], .bool t]) ∧ Rl.OT w' w.heap.size v F ∧ said F = R ∧ Below w.heap.size w w'
/-- Of a right store: either the relation of that name, and no other, or none. -/
theorem GA_right {T : List Nm} {s : ByteArray} {ar : Int} {X : List RowL} {t : Bool} (hB : storeB (told T) = true) (h : GA (told T) s ar X t) :
    (∀ x ∈ T, x.s = s → ar = x.ar ∧ X = said x.Q ∧ t = true) ∧ ((∀ x ∈ T, x.s ≠ s) → ar = 0 ∧ X = [] ∧ t = false) := by
  rcases h with ⟨_, l, hl, e, rfl, rfl, rfl⟩ | ⟨h1, rfl, rfl, rfl⟩
  · obtain ⟨y, hy, rfl⟩ := told_mem hl
    refine ⟨fun x hx hs => ?_, fun hn => absurd e (hn y hy)⟩
    obtain rfl := same_of (store_apart hB) hx hy (hs.trans e.symm)
    exact ⟨rfl, rfl, rfl⟩
  · refine ⟨fun x hx hs => ?_, fun _ => ⟨rfl, rfl, rfl⟩⟩
    rcases h1 with h1 | h1
    · rw [hB] at h1; cases h1
    · exact absurd hs (h1 _ (mem_told hx))
theorem few_at {T : List Nm} (hB : storeB (told T) = true) {x : Nm} (hx : x ∈ T) : x.Q.length ≤ 100000 := by
  have := (store_one hB (mem_told hx)).2.few
  simp only [Nm.l, Rl.said_len] at this
  omega

theorem look_any {ops : Array Oper} {rest : List Oper} {o : Oper} {a : Act} {Q : Exit → Act → World → Prop} (w : World) (hg : o.guard = none) (m x : Operand) (hop : o.op = Op.lookup 63 m x true) (b n : Nat) (D : DataW Value) (T : List Nm) (hm : a.eval m = .map (some b)) (hown : Owns w b n D) (his : Is D (T.map nv)) (s : ByteArray) (hs : s.size ≤ maxLen) (hx : a.eval x = .string s)
    (hyes : ∀ y ∈ T, y.s = s → wpList Try.prog ops Q rest (a.put o.dst (.tuple #[.agg #[.int .i64 y.ar, .slice y.a y.Q.length y.c], .bool true])) w)
    (hno : (∀ y ∈ T, y.s ≠ s) → wpList Try.prog ops Q rest (a.put o.dst (.tuple #[.agg #[.int .i64 0, .slice none 0 0], .bool false])) w) : wpList Try.prog ops Q (o :: rest) a w := by
  rcases his.find s with ⟨p, hp, e, hh, hat⟩ | ⟨hn, hh, hat⟩
  · obtain ⟨y, hy, rfl⟩ := List.mem_map.1 hp
    exact look_yes w hg m x hop b n D hm hown s hs hx y.ar y.a y.Q.length y.c hh hat (hyes y hy e)
  · exact look_no w hg m x hop b n D hm hown s hs hx hh hat (hno fun y hy => hn _ (List.mem_map_of_mem hy))

set_option maxHeartbeats 4000000 in
theorem getI_any (a : Option Addr) (b off cap : Nat) (T : List Nm) (s : ByteArray) (w : World) (h : St.Rd w a b off T) (hs : s.size ≤ maxLen) (ar : Int) (X : List RowL) (t : Bool) (hG : GA (told T) s ar X t) :
    Calls Try.prog 13 #[.agg #[.slice a T.length cap], .string s] w (ResT w ar X t) := by
  obtain ⟨W1, hW1⟩ : ∃ W1, W1 = (w.alloc (.cells #[.slice a T.length cap] 29)).alloc (.cells #[.int .i64 0, .slice none 0 0] 35) := ⟨_, rfl⟩
  have B1 : Below w.heap.size w W1 := by subst hW1; exact below_alloc2 _ _ _
  have k0 : W1.heap[w.heap.size]? = some (.cells #[.slice a T.length cap] 29 (0, 0)) := by subst hW1; rw [at_old (by simp), at_new rfl]
  have k1 : W1.heap[w.heap.size + 1]? = some (.cells #[.int .i64 0, .slice none 0 0] 35 (0, 0)) := by subst hW1; exact at_new (by simp)
  have r0 := h.below B1
  clear h
  have hA := fun W h => St.okI_any a b off cap T W h
  cases hB : storeB (told T) with
  | false =>
    rw [hB] at hA
    obtain ⟨rfl, rfl, rfl⟩ : ar = 0 ∧ X = [] ∧ t = false := by
      rcases hG with ⟨q, _⟩ | ⟨_, q⟩
      · rw [hB] at q; cases q
      · exact q
    go_enter Try.func13, Try.ntmps13
    go_wp2_with (go_at_call 10; rw [← hW1]; clear hW1; refine (hA _ r0).mono ?_; rintro e w1 ⟨rfl, hb⟩; replace B1 := Rw.next B1 hb; replace k1 := (hb.block _ (blk_lt k1)).trans k1; clear hb; obtain ⟨z0, z1⟩ := two k1; have f1 := Vl.free k1)
    refine bodyPost_ret (v := .tuple #[.agg #[.int .i64 0, .slice none 0 0], .bool false]) (by simp [results, Try.results13, go_sem, z0, z1]) rfl ⟨.slice none 0 0, [], rfl, Rl.OT.nil _ _, rfl, ?_⟩
    repeat (first | with_reducible exact B1 | refine Vl.bset ?_ (by simp <;> omega))
  | true =>
    rw [hB] at hA
    obtain ⟨G1, G2⟩ := GA_right hB hG
    have HM : Hid (mapL T = T.map nv) := mapL_eq (store_apart hB)
    have HF : Hid (∀ x ∈ T, x.Q.length ≤ 100000) := fun x hx => few_at hB hx
    have HG1 : Hid (∀ x ∈ T, x.s = s → ar = x.ar ∧ X = said x.Q ∧ t = true) := G1
    have HG2 : Hid ((∀ x ∈ T, x.s ≠ s) → ar = 0 ∧ X = [] ∧ t = false) := G2
    clear hG hB G1 G2
    go_enter Try.func13, Try.ntmps13
    go_wp2_with (first
      | (go_at_call 10; rw [← hW1]; clear hW1; refine (hA _ r0).mono ?_; rintro e w1 ⟨rfl, hb⟩; replace B1 := Rw.next B1 hb; replace k0 := (hb.block _ (blk_lt k0)).trans k0; replace k1 := (hb.block _ (blk_lt k1)).trans k1; replace r0 := r0.below hb; clear hb; have p0 := one k0)
      | (go_at_call 38; clear p0; refine (relsOf_any _ _ _ _ _ _ r0).mono ?_; rintro e w2 ⟨hb, M, D, rfl, hM, ow, is⟩; replace B1 := Rw.next B1 hb; replace k1 := (hb.block _ (blk_lt k1)).trans k1; replace r0 := r0.below hb; clear hb; rw [HM.out] at is)
      | (at_lookup; refine look_any _ rfl _ _ rfl M _ D T rfl ow is s hs rfl ?_ ?_)
      | go_in)
    · intro x hx e
      obtain ⟨rfl, rfl, rfl⟩ := HG1.out x hx e
      have okx := rd_ok r0 x hx
      have h4 := HF.out x hx
      obtain ⟨xs, xr, xa, xb, xo, xc, xQ⟩ := x
      simp only at e okx h4
      have okx' : Rl.Rd w2 xa xb xo xQ := okx
      have lk := blk_lt k1
      have l1 : w.heap.size + 1 < (w2.alloc (.cells #[.int .i64 xr, .slice xa xQ.length xc] 35)).heap.size := by simp; omega
      go_wp2_with (go_at_call 39; refine (copyRel_any _ _ _ _ _ _ _ (okx'.below (below_alloc1 _ _)) h4).mono ?_; rintro e w5 ⟨v, F, rfl, hot, sF, hb⟩; obtain ⟨ua, un, uc, rfl⟩ := hot.og.slice; have sb := hb.size; replace hb := Rw.next (below_alloc1 w2 _) hb; replace B1 := Rw.next B1 hb; replace k1 := (hb.block _ (blk_lt k1)).trans k1; clear hb; obtain ⟨z0, z1⟩ := two k1; have f1 := Vl.free k1; have HS : Hid (said F = said xQ) := sF; clear sF)
      have hz := B1.size
      refine bodyPost_ret (v := .tuple #[.agg #[.int .i64 xr, .slice ua un uc], .bool true]) (by simp [results, Try.results13, go_sem, z0, z1]) rfl ⟨.slice ua un uc, F, rfl, ?_, HS.out, ?_⟩
      · refine Rl.OT.mono (B := (w2.alloc (.cells #[.int .i64 xr, .slice xa xQ.length xc] 35)).heap.size) ?_ (by omega)
        refine hot.keep fun z hz hzB => ?_
        repeat (first | rfl | refine (Below.heap_setCell _ _ _ _ (by simp; omega)).trans ?_)
      · repeat (first | with_reducible exact B1 | refine Vl.bset ?_ (by simp <;> omega))
    · intro hno
      obtain ⟨rfl, rfl, rfl⟩ := HG2.out hno
      have lk := blk_lt k1
      have l1 : w.heap.size + 1 < (w2.alloc (.cells #[.int .i64 0, .slice none 0 0] 35)).heap.size := by simp; omega
      go_wp2_with (go_at_call 39; refine (copyRel_any 0 none 0 0 0 [] _ (Rl.rd_nil _ _ _ _) (by simp)).mono ?_; rintro e w5 ⟨v, F, rfl, hot, sF, hb⟩; obtain ⟨ua, un, uc, rfl⟩ := hot.og.slice; have sb := hb.size; replace hb := Rw.next (below_alloc1 w2 _) hb; replace B1 := Rw.next B1 hb; replace k1 := (hb.block _ (blk_lt k1)).trans k1; clear hb; obtain ⟨z0, z1⟩ := two k1; have f1 := Vl.free k1; have HS : Hid (said F = []) := sF; clear sF)
      have hz := B1.size
      refine bodyPost_ret (v := .tuple #[.agg #[.int .i64 0, .slice ua un uc], .bool false]) (by simp [results, Try.results13, go_sem, z0, z1]) rfl ⟨.slice ua un uc, F, rfl, ?_, HS.out, ?_⟩
      · refine Rl.OT.mono (B := (w2.alloc (.cells #[.int .i64 0, .slice none 0 0] 35)).heap.size) ?_ (by omega)
        refine hot.keep fun z hz hzB => ?_
        repeat (first | rfl | refine (Below.heap_setCell _ _ _ _ (by simp; omega)).trans ?_)
      · repeat (first | with_reducible exact B1 | refine Vl.bset ?_ (by simp <;> omega))

set_option maxHeartbeats 4000000 in
theorem l12Rel_any (a : Option Addr) (b off cap : Nat) (T : List Nm) (s : ByteArray) (w : World) (h : St.Rd w a b off T) :
    Calls Try.prog 36 #[.agg #[.slice a T.length cap], .string s] w fun e w' => Below w.heap.size w w' ∧ ((∃ x ∈ T, x.s = s ∧ e = .returned (.tuple #[.agg #[.int .i64 x.ar, .slice x.a x.Q.length x.c], .bool true])) ∨ ((∀ x ∈ T, x.s ≠ s) ∧ e = .returned (.tuple #[.agg #[.int .i64 0, .slice none 0 0], .bool false]))) := by
  obtain ⟨W1, hW1⟩ : ∃ W1, W1 = (w.alloc (.cells #[.slice a T.length cap] 29)).alloc (.cells #[.int .i64 0, .slice none 0 0] 35) := ⟨_, rfl⟩
  have B1 : Below w.heap.size w W1 := by subst hW1; exact below_alloc2 _ _ _
  have k0 : W1.heap[w.heap.size]? = some (.cells #[.slice a T.length cap] 29 (0, 0)) := by subst hW1; rw [at_old (by simp), at_new rfl]
  have k1 : W1.heap[w.heap.size + 1]? = some (.cells #[.int .i64 0, .slice none 0 0] 35 (0, 0)) := by subst hW1; exact at_new (by simp)
  obtain ⟨hh, hc, ho, hs, hst⟩ := h.below B1
  have HE : Hid (∀ x ∈ T, ∃ i, i < T.length ∧ T.getD i nm0 = x) := fun x hx => by
    obtain ⟨i, hi, e⟩ := List.getElem_of_mem hx
    exact ⟨i, hi, by simpa [List.getD, hi] using e⟩
  have HQ : Hid (∀ i, i < T.length → T.getD i nm0 ∈ T) := fun i hi => St.mem_at hi
  obtain ⟨n, hn⟩ : ∃ n, n = T.length := ⟨_, rfl⟩
  rw [← hn] at hh hc hs hst HE HQ k0 hW1 ⊢
  clear hn ho h hst
  go_enter Try.func36, Try.ntmps36
  go_wp2
  rw [← hW1]
  clear hW1
  obtain ⟨z0, z1⟩ := two k1
  have f1 := Vl.free k1
  have lW := blk_lt k1
  have p0 := one k0
  go_loopw [10] (fun i wr => ∃ k : Nat, k ≤ n ∧ i = .int .i64 k ∧ wr = W1 ∧ ∀ i, i < k → (T.getD i nm0).s ≠ s) (fun i _ => n - (intOf i).toNat)
  case atStart => exact ⟨0, Nat.zero_le _, rfl, rfl, fun i hi => by omega⟩
  case round =>
    obtain ⟨k, hk, rfl, rfl, hpre⟩ := hrel
    have HP : Hid (∀ i, i < k → (T.getD i nm0).s ≠ s) := hpre
    clear hpre
    by_cases hlt : k < n
    · obtain rfl := hh (by omega)
      have hkz : (k : Int) < (n : Int) := by omega
      obtain ⟨c0, c1, c2⟩ := hc k hlt
      have hm := HQ.out k hlt
      have HX : Hid ((T.getD k nm0).s ≠ s → ∀ i, i < k + 1 → (T.getD i nm0).s ≠ s) := fun h i hi => by
        by_cases e : i = k
        · subst e; exact h
        · exact HP.out i (by omega)
      clear hc hh
      generalize T.getD k nm0 = x at c0 c1 c2 hm HX
      obtain ⟨xs, xr, xa, xb, xo, xc, xQ⟩ := x
      simp only at c0 c1 c2 HX
      by_cases hx : xs = s
      · subst hx
        have hss : (xs.toList == xs.toList) = true := by simp
        go_wp2
        refine bodyPost_ret (v := .tuple #[.agg #[.int .i64 xr, .slice xa xQ.length xc], .bool true]) (by simp [results, Try.results36, go_sem, z0, z1]) rfl ⟨?_, .inl ⟨_, hm, rfl, rfl⟩⟩
        repeat (first | with_reducible exact B1 | refine Vl.bset ?_ (by simp <;> omega))
      · have hss : (xs.toList == s.toList) = false := by
          rw [beq_eq_false_iff_ne]
          intro e; rw [ByteArray.toList_eq, ByteArray.toList_eq] at e; exact hx (Go.WideShapes.bytes_inj e)
        have HY : Hid (∀ i, i < k + 1 → (T.getD i nm0).s ≠ s) := HX.out hx
        clear hx
        go_wp2
        go_roundw
        case rel => exact ⟨k + 1, by omega, by go_num, (by first | rfl | trivial), HY.out⟩
        case measure => simp [intOf]; omega
    · have he : k = n := by omega
      subst he
      go_wp2
      refine bodyPost_ret (v := .tuple #[.agg #[.int .i64 0, .slice none 0 0], .bool false]) (by simp [results, Try.results36, go_sem, z0, z1]) rfl ⟨?_, .inr ⟨fun x hx e => ?_, rfl⟩⟩
      · repeat (first | with_reducible exact B1 | refine Vl.bset ?_ (by simp <;> omega))
      · obtain ⟨i, hi, ex⟩ := HE.out x hx
        exact HP.out i hi (by rw [ex]; exact e)

set_option maxHeartbeats 4000000 in
theorem getS_any (a : Option Addr) (b off cap : Nat) (T : List Nm) (s : ByteArray) (w : World) (h : St.Rd w a b off T) (ar : Int) (X : List RowL) (t : Bool) (hG : GA (told T) s ar X t) :
    Calls Try.prog 12 #[.agg #[.slice a T.length cap], .string s] w (ResT w ar X t) := by
  obtain ⟨W1, hW1⟩ : ∃ W1, W1 = (w.alloc (.cells #[.slice a T.length cap] 29)).alloc (.cells #[.int .i64 0, .slice none 0 0] 35) := ⟨_, rfl⟩
  have B1 : Below w.heap.size w W1 := by subst hW1; exact below_alloc2 _ _ _
  have k0 : W1.heap[w.heap.size]? = some (.cells #[.slice a T.length cap] 29 (0, 0)) := by subst hW1; rw [at_old (by simp), at_new rfl]
  have k1 : W1.heap[w.heap.size + 1]? = some (.cells #[.int .i64 0, .slice none 0 0] 35 (0, 0)) := by subst hW1; exact at_new (by simp)
  have r0 := h.below B1
  clear h
  have hA := fun W h => St.okS_any a b off cap T W h
  cases hB : storeB (told T) with
  | false =>
    rw [hB] at hA
    obtain ⟨rfl, rfl, rfl⟩ : ar = 0 ∧ X = [] ∧ t = false := by
      rcases hG with ⟨q, _⟩ | ⟨_, q⟩
      · rw [hB] at q; cases q
      · exact q
    go_enter Try.func12, Try.ntmps12
    go_wp2_with (go_at_call 8; rw [← hW1]; clear hW1; refine (hA _ r0).mono ?_; rintro e w1 ⟨rfl, hb⟩; replace B1 := Rw.next B1 hb; replace k1 := (hb.block _ (blk_lt k1)).trans k1; clear hb; obtain ⟨z0, z1⟩ := two k1; have f1 := Vl.free k1)
    refine bodyPost_ret (v := .tuple #[.agg #[.int .i64 0, .slice none 0 0], .bool false]) (by simp [results, Try.results12, go_sem, z0, z1]) rfl ⟨.slice none 0 0, [], rfl, Rl.OT.nil _ _, rfl, ?_⟩
    repeat (first | with_reducible exact B1 | refine Vl.bset ?_ (by simp <;> omega))
  | true =>
    rw [hB] at hA
    obtain ⟨G1, G2⟩ := GA_right hB hG
    have HF : Hid (∀ x ∈ T, x.Q.length ≤ 100000) := fun x hx => few_at hB hx
    have HG1 : Hid (∀ x ∈ T, x.s = s → ar = x.ar ∧ X = said x.Q ∧ t = true) := G1
    have HG2 : Hid ((∀ x ∈ T, x.s ≠ s) → ar = 0 ∧ X = [] ∧ t = false) := G2
    clear hG hB G1 G2
    go_enter Try.func12, Try.ntmps12
    go_wp2_with (first
      | (go_at_call 8; rw [← hW1]; clear hW1; refine (hA _ r0).mono ?_; rintro e w1 ⟨rfl, hb⟩; replace B1 := Rw.next B1 hb; replace k0 := (hb.block _ (blk_lt k0)).trans k0; replace k1 := (hb.block _ (blk_lt k1)).trans k1; replace r0 := r0.below hb; clear hb; have p0 := one k0)
      | (go_at_call 36; clear p0; refine (l12Rel_any _ _ _ _ _ _ _ r0).mono ?_))
    rintro e w2 ⟨hb, ⟨x, hx, he, rfl⟩ | ⟨hno, rfl⟩⟩
    · replace B1 := Rw.next B1 hb; replace k1 := (hb.block _ (blk_lt k1)).trans k1; replace r0 := r0.below hb; clear hb
      obtain ⟨rfl, rfl, rfl⟩ := HG1.out x hx he
      have okx := rd_ok r0 x hx
      have h4 := HF.out x hx
      obtain ⟨xs, xr, xa, xb, xo, xc, xQ⟩ := x
      simp only at okx h4
      have okx' : Rl.Rd w2 xa xb xo xQ := okx
      have lk := blk_lt k1
      have l1 : w.heap.size + 1 < (w2.alloc (.cells #[.int .i64 xr, .slice xa xQ.length xc] 35)).heap.size := by simp; omega
      go_wp2_with (go_at_call 37; refine (Rl.lcopy_any _ _ _ _ _ _ _ (okx'.below (below_alloc1 _ _)) h4).mono ?_; rintro e w5 ⟨v, F, rfl, hot, sF, hb⟩; obtain ⟨ua, un, uc, rfl⟩ := hot.og.slice; have sb := hb.size; replace hb := Rw.next (below_alloc1 w2 _) hb; replace B1 := Rw.next B1 hb; replace k1 := (hb.block _ (blk_lt k1)).trans k1; clear hb; obtain ⟨z0, z1⟩ := two k1; have f1 := Vl.free k1; have HS : Hid (said F = said xQ) := sF; clear sF)
      have hz := B1.size
      refine bodyPost_ret (v := .tuple #[.agg #[.int .i64 xr, .slice ua un uc], .bool true]) (by simp [results, Try.results12, go_sem, z0, z1]) rfl ⟨.slice ua un uc, F, rfl, ?_, HS.out, ?_⟩
      · refine Rl.OT.mono (B := (w2.alloc (.cells #[.int .i64 xr, .slice xa xQ.length xc] 35)).heap.size) ?_ (by omega)
        refine hot.keep fun z hz hzB => ?_
        repeat (first | rfl | refine (Below.heap_setCell _ _ _ _ (by simp; omega)).trans ?_)
      · repeat (first | with_reducible exact B1 | refine Vl.bset ?_ (by simp <;> omega))
    · replace B1 := Rw.next B1 hb; replace k1 := (hb.block _ (blk_lt k1)).trans k1; clear hb r0
      obtain ⟨rfl, rfl, rfl⟩ := HG2.out hno
      have lk := blk_lt k1
      have l1 : w.heap.size + 1 < (w2.alloc (.cells #[.int .i64 0, .slice none 0 0] 35)).heap.size := by simp; omega
      go_wp2_with (go_at_call 37; refine (Rl.lcopy_any 0 none 0 0 0 [] _ (Rl.rd_nil _ _ _ _) (by simp)).mono ?_; rintro e w5 ⟨v, F, rfl, hot, sF, hb⟩; obtain ⟨ua, un, uc, rfl⟩ := hot.og.slice; have sb := hb.size; replace hb := Rw.next (below_alloc1 w2 _) hb; replace B1 := Rw.next B1 hb; replace k1 := (hb.block _ (blk_lt k1)).trans k1; clear hb; obtain ⟨z0, z1⟩ := two k1; have f1 := Vl.free k1; have HS : Hid (said F = []) := sF; clear sF)
      have hz := B1.size
      refine bodyPost_ret (v := .tuple #[.agg #[.int .i64 0, .slice ua un uc], .bool false]) (by simp [results, Try.results12, go_sem, z0, z1]) rfl ⟨.slice ua un uc, F, rfl, ?_, HS.out, ?_⟩
      · refine Rl.OT.mono (B := (w2.alloc (.cells #[.int .i64 0, .slice none 0 0] 35)).heap.size) ?_ (by omega)
        refine hot.keep fun z hz hzB => ?_
        repeat (first | rfl | refine (Below.heap_setCell _ _ _ _ (by simp; omega)).trans ?_)
      · repeat (first | with_reducible exact B1 | refine Vl.bset ?_ (by simp <;> omega))

end Go.Proofs.Ytecnbenlmbppbaa.Mp
