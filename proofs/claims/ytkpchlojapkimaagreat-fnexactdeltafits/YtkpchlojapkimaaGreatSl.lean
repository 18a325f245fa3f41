/-
  A name looked up: the program's map, the specification's l12Rel.
-/
import Derived.Test.YtkpchlojapkimaaGreatMq
import Derived.Test.YtkpchlojapkimaaGreatCr
import Derived.Test.YtkpchlojapkimaaGreatMda
import Derived.Test.YtkpchlojapkimaaGreatSc
namespace Go.Proofs.YtkpchlojapkimaaGreat.Mp
set_option maxRecDepth 8000
set_option linter.unusedSimpArgs false
set_option linter.unusedVariables false
open Go Go.ChangeShapes Go.WideShapes Go.RowKit
open Num Word Pl Rp
open Rl (Rm rm0 said)
open St (Nm nm0 NL told storeB)

theorem told_mem {T : List Nm} {l : NL} (h : l ∈ told T) : ∃ x ∈ T, x.l = l := List.mem_map.1 h
theorem mem_told {T : List Nm} {x : Nm} (h : x ∈ T) : x.l ∈ told T := List.mem_map_of_mem h
theorem rd_ok {w : World} {a : Option Addr} {b off : Nat} {T : List Nm} (h : St.Rd w a b off T) : ∀ x ∈ T, x.Ok w := fun x hx => by
  obtain ⟨i, hi, rfl⟩ := List.getElem_of_mem hx
  have := h.ok i hi
  simpa [List.getD, hi] using this

theorem few_at {T : List Nm} (hB : storeB (told T) = true) {x : Nm} (hx : x ∈ T) : x.Q.length ≤ 100000 := by
  have := (store_one hB (mem_told hx)).2.few
  simp only [Nm.l, Rl.said_len] at this
  omega

theorem look_any {ops : Array Oper} {rest : List Oper} {o : Oper} {a : Act} {Q : Exit → Act → World → Prop} (w : World) (hg : o.guard = none) (m x : Operand) (hop : o.op = Op.lookup 77 m x true) (b n : Nat) (D : DataW Value) (T : List Nm) (hm : a.eval m = .map (some b)) (hown : Owns w b n D) (his : Is D (T.map nv)) (s : ByteArray) (hs : s.size ≤ maxLen) (hx : a.eval x = .string s)
    (hyes : ∀ y ∈ T, y.s = s → wpList Tryz.prog ops Q rest (a.put o.dst (.tuple #[.agg #[.int .i64 y.ar, .slice y.a y.Q.length y.c], .bool true])) w)
    (hno : (∀ y ∈ T, y.s ≠ s) → wpList Tryz.prog ops Q rest (a.put o.dst (.tuple #[.agg #[.int .i64 0, .slice none 0 0], .bool false])) w) : wpList Tryz.prog ops Q (o :: rest) a w := by
  rcases his.find s with ⟨p, hp, e, hh, hat⟩ | ⟨hn, hh, hat⟩
  · obtain ⟨y, hy, rfl⟩ := List.mem_map.1 hp
    exact look_yes w hg m x hop b n D hm hown s hs hx y.ar y.a y.Q.length y.c hh hat (hyes y hy e)
  · exact look_no w hg m x hop b n D hm hown s hs hx hh hat (hno fun y hy => hn _ (List.mem_map_of_mem hy))

set_option maxHeartbeats 4000000 in
theorem l12Rel_any (a : Option Addr) (b off cap : Nat) (T : List Nm) (s : ByteArray) (w : World) (h : St.Rd w a b off T) :
    Calls Tryz.prog 59 #[.agg #[.slice a T.length cap], .string s] w fun e w' => Below w.heap.size w w' ∧ ((∃ x ∈ T, x.s = s ∧ e = .returned (.tuple #[.agg #[.int .i64 x.ar, .slice x.a x.Q.length x.c], .bool true])) ∨ ((∀ x ∈ T, x.s ≠ s) ∧ e = .returned (.tuple #[.agg #[.int .i64 0, .slice none 0 0], .bool false]))) := by
  obtain ⟨W1, hW1⟩ : ∃ W1, W1 = (w.alloc (.cells #[.slice a T.length cap] 25)).alloc (.cells #[.int .i64 0, .slice none 0 0] 67) := ⟨_, rfl⟩
  have B1 : Below w.heap.size w W1 := by subst hW1; exact below_alloc2 _ _ _
  have k0 : W1.heap[w.heap.size]? = some (.cells #[.slice a T.length cap] 25 (0, 0)) := by subst hW1; rw [at_old (by simp), at_new rfl]
  have k1 : W1.heap[w.heap.size + 1]? = some (.cells #[.int .i64 0, .slice none 0 0] 67 (0, 0)) := by subst hW1; exact at_new (by simp)
  obtain ⟨hh, hc, ho, hs, hst⟩ := h.below B1
  have HE : Hid (∀ x ∈ T, ∃ i, i < T.length ∧ T.getD i nm0 = x) := fun x hx => by
    obtain ⟨i, hi, e⟩ := List.getElem_of_mem hx
    exact ⟨i, hi, by simpa [List.getD, hi] using e⟩
  have HQ : Hid (∀ i, i < T.length → T.getD i nm0 ∈ T) := fun i hi => St.mem_at hi
  obtain ⟨n, hn⟩ : ∃ n, n = T.length := ⟨_, rfl⟩
  rw [← hn] at hh hc hs hst HE HQ k0 hW1 ⊢
  clear hn ho h hst
  go_enter Tryz.func59, Tryz.ntmps59
  go_wp2
  rw [← hW1]
  clear hW1
  obtain ⟨z0, z1⟩ := two k1
  have f1 := Vl.free k1
  have lW := blk_lt k1
  have p0 := one k0
  go_loopw [10] (fun i wr => ∃ k : Nat, k ≤ n ∧ i = .int .i64 k ∧ wr = W1 ∧ ∀ i, i < k → (T.getD i nm0).s ≠ s) (fun i _ => n - (intOf i).toNat)
  case atStart => exact ⟨0, Nat.zero_le _, rfl, rfl, fun i hi => by omega⟩
  case round =>
    obtain ⟨k, hk, rfl, rfl, hpre⟩ := hrel
    have HP : Hid (∀ i, i < k → (T.getD i nm0).s ≠ s) := hpre
    clear hpre
    by_cases hlt : k < n
    · obtain rfl := hh (by omega)
      have hkz : (k : Int) < (n : Int) := by omega
      obtain ⟨c0, c1, c2⟩ := hc k hlt
      have hm := HQ.out k hlt
      have HX : Hid ((T.getD k nm0).s ≠ s → ∀ i, i < k + 1 → (T.getD i nm0).s ≠ s) := fun h i hi => by
        by_cases e : i = k
        · subst e; exact h
        · exact HP.out i (by omega)
      clear hc hh
      generalize T.getD k nm0 = x at c0 c1 c2 hm HX
      obtain ⟨xs, xr, xa, xb, xo, xc, xQ⟩ := x
      simp only at c0 c1 c2 HX
      by_cases hx : xs = s
      · subst hx
        have hss : (xs.toList == xs.toList) = true := by simp
        go_wp2
        refine bodyPost_ret (v := .tuple #[.agg #[.int .i64 xr, .slice xa xQ.length xc], .bool true]) (by simp [results, Tryz.results59, go_sem, z0, z1]) rfl ⟨?_, .inl ⟨_, hm, rfl, rfl⟩⟩
        repeat (first | with_reducible exact B1 | refine Vl.bset ?_ (by simp <;> omega))
      · have hss : (xs.toList == s.toList) = false := by
          rw [beq_eq_false_iff_ne]
          intro e; rw [ByteArray.toList_eq, ByteArray.toList_eq] at e; exact hx (Go.WideShapes.bytes_inj e)
        have HY : Hid (∀ i, i < k + 1 → (T.getD i nm0).s ≠ s) := HX.out hx
        clear hx
        go_wp2
        go_roundw
        case rel => exact ⟨k + 1, by omega, by go_num, (by first | rfl | trivial), HY.out⟩
        case measure => simp [intOf]; omega
    · have he : k = n := by omega
      subst he
      go_wp2
      refine bodyPost_ret (v := .tuple #[.agg #[.int .i64 0, .slice none 0 0], .bool false]) (by simp [results, Tryz.results59, go_sem, z0, z1]) rfl ⟨?_, .inr ⟨fun x hx e => ?_, rfl⟩⟩
      · repeat (first | with_reducible exact B1 | refine Vl.bset ?_ (by simp <;> omega))
      · obtain ⟨i, hi, ex⟩ := HE.out x hx
        exact HP.out i hi (by rw [ex]; exact e)

end Go.Proofs.YtkpchlojapkimaaGreat.Mp
