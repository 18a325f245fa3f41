/-
  Rows of values of the call's own; copies, likeness; both RowOk.
-/
import Derived.Test.YtljlgjgfmgilaaaGreatVp
namespace Go.Proofs.YtljlgjgfmgilaaaGreat.Vl
set_option maxRecDepth 8000
set_option linter.unusedSimpArgs false
set_option linter.unusedVariables false
open Go Go.RowKit
open Num Word Pl

/-- The value at cell j of the values l. -/
def flat (l : List V2) (j : Nat) : Value := if j % 2 = 0 then .int .i64 (l.getD (j / 2) z2).1 else .string (l.getD (j / 2) z2).2
theorem flat0 (l : List V2) (i : Nat) : flat l (i * 2) = .int .i64 (l.getD i z2).1 := by
  have e1 : i * 2 % 2 = 0 := by omega
  have e2 : i * 2 / 2 = i := by omega
  unfold flat; rw [if_pos e1, e2]
theorem flat1 (l : List V2) (i : Nat) : flat l (i * 2 + 1) = .string (l.getD i z2).2 := by
  have e1 : ¬ (i * 2 + 1) % 2 = 0 := by omega
  have e2 : (i * 2 + 1) / 2 = i := by omega
  unfold flat; rw [if_neg e1, e2]
/-- The block g is a row of the values l, of the call's own. -/
structure Mine (w : World) (g : Nat) (l : List V2) : Prop where
  row : w.rowIs g 92 (l.length * 2) (flat l)
  size : l.length ≤ 4194304
  str : ∀ i, i < l.length → (l.getD i z2).2.size ≤ maxLen
theorem Mine.rd {w : World} {g : Nat} {l : List V2} (h : Mine w g l) : Rd w (some ⟨g, 0, none⟩) g 0 l := by
  refine ⟨fun _ => rfl, fun i hi => ⟨?_, ?_⟩, h.size, h.str⟩
  · rw [← flat0, Nat.zero_add]; exact h.row.cell (by omega)
  · rw [← flat1, Nat.zero_add]; exact h.row.cell (by omega)
theorem Mine.below {w w' : World} {g : Nat} {l : List V2} (h : Mine w g l) (hb : Below w.heap.size w w') : Mine w' g l :=
  ⟨h.row.of_block (hb.block g h.row.lt), h.size, h.str⟩

/-- A copy under way: the first k values are there. -/
def part (l : List V2) (k : Nat) : Nat → Value := fun j => if j < k * 2 then flat l j else if j % 2 = 0 then .int .i64 0 else .string ⟨#[]⟩
theorem part_step {w : World} {g n : Nat} {l : List V2} {k : Nat} (h : w.rowIs g 92 n (part l k)) :
    ((w.setCell ⟨g, k * 2, none⟩ (.int .i64 (l.getD k z2).1)).setCell ⟨g, k * 2 + 1, none⟩ (.string (l.getD k z2).2)).rowIs g 92 n (part l (k + 1)) := by
  refine ((h.set _ _).set _ _).congr fun j hj => ?_
  unfold part
  by_cases e1 : j = k * 2 + 1
  · subst e1; rw [if_pos rfl, if_pos (by omega), flat1]
  · rw [if_neg e1]
    by_cases e0 : j = k * 2
    · subst e0; rw [if_pos rfl, if_pos (by omega), flat0]
    · rw [if_neg e0]
      have : (j < (k + 1) * 2) = (j < k * 2) := by rw [eq_iff_iff]; omega
      simp [this]
theorem part_at {l : List V2} {k : Nat} : part l k (k * 2) = .int .i64 0 ∧ part l k (k * 2 + 1) = .string ⟨#[]⟩ := by
  have e0 : ¬ k * 2 < k * 2 := by omega
  have e1 : ¬ k * 2 + 1 < k * 2 := by omega
  have e2 : k * 2 % 2 = 0 := by omega
  have e3 : ¬ (k * 2 + 1) % 2 = 0 := by omega
  unfold part
  simp only [if_neg e0, if_neg e1, if_pos e2, if_neg e3]
  exact ⟨trivial, trivial⟩

theorem info26 : (Tryz.prog.info? 92).map (fun i => (i.zero, i.size, i.bytes)) = some (some (.agg #[.int .i64 0, .string ⟨#[]⟩]), 2, 24) := by kernel_rfl
theorem make2 (n : Nat) (hn : n ≤ 4194304) (w : World) :
    (Instr.makeSlice 147 (.int .i64 n) (.int .i64 n)).run Tryz.prog w = .ok (.slice (some ⟨w.heap.size, 0, none⟩) n n) (w.alloc (.cells (madeCells #[.int .i64 0, .string ⟨#[]⟩] (n * 2)) 92)) := by
  obtain ⟨i, hi, hzz⟩ := Option.map_eq_some_iff.1 info26
  simp only [Prod.mk.injEq] at hzz
  obtain ⟨hz, hs, hb⟩ := hzz
  have hr := run_make (P := Tryz.prog) w 147 92 i _ Tryz.underlying147 hi hz .i64 .i64 n n (by omega) (Int.le_refl _) (by rw [hb]; omega) (by omega)
  simp only [Int.toNat_natCast, hs, Value.cells] at hr
  exact hr
theorem made2 (w : World) (n : Nat) (l : List V2) : (w.alloc (.cells (madeCells #[.int .i64 0, .string ⟨#[]⟩] (n * 2)) 92)).rowIs w.heap.size 92 (n * 2) (part l 0) :=
  ⟨_, at_new rfl, size_madeCells _ _, fun i hi => by
    have e : i % 2 = 0 ∨ i % 2 = 1 := by omega
    rcases e with e | e <;> simp [madeCells, hi, e, part]⟩

theorem Mine.set {w : World} {g : Nat} {l : List V2} {a : Addr} {u : Value} (h : Mine w g l) (hne : a.block < g) : Mine (w.setCell a u) g l :=
  ⟨h.row.of_block (Below.heap_setCell w a u g (by omega)), h.size, h.str⟩
theorem bset {n : Nat} {w w1 : World} {a : Addr} {u : Value} (h : Below n w w1) (ha : n ≤ a.block) : Below n w (w1.setCell a u) := h.setCell ha u
theorem free {w : World} {g : Nat} {cs : Array Value} {t : TypeId} (h : w.heap[g]? = some (.cells cs t (0, 0))) (i : Nat) : w.frozen? ⟨g, i, none⟩ = false := by simp [World.frozen?, h]

theorem eqV_any (x y : V2) (w : World) :
    Calls Tryz.prog 162 #[.agg #[.int .i64 x.1, .string x.2], .agg #[.int .i64 y.1, .string y.2]] w fun e w' => e = .returned (.bool (decide (x = y))) ∧ Below w.heap.size w w' := by
  obtain ⟨n, s⟩ := x
  obtain ⟨m, t⟩ := y
  have B := below_alloc2 w (.cells #[.int .i64 n, .string s] 92) (.cells #[.int .i64 m, .string t] 92)
  by_cases h0 : n = m
  · subst h0
    by_cases h1 : s = t
    · subst h1
      have hq : (s.toList == s.toList) = true := by simp
      go_enter Tryz.func162, Tryz.ntmps162
      go_wp2
      go_ret
      exact ⟨ret_bool (by simp), B⟩
    · have hq : (s.toList == t.toList) = false := by
        rw [beq_eq_false_iff_ne]
        intro e
        rw [ByteArray.toList_eq, ByteArray.toList_eq] at e
        exact h1 (Go.WideShapes.bytes_inj e)
      go_enter Tryz.func162, Tryz.ntmps162
      go_wp2
      go_ret
      exact ⟨ret_bool (by simp [h1]), B⟩
  · have hn : (n != m) = true := by simpa using h0
    go_enter Tryz.func162, Tryz.ntmps162
    go_wp2
    go_ret
    exact ⟨ret_bool (by simp [h0]), B⟩

theorem ext2 {l m : List V2} (hl : l.length = m.length) (h : ∀ i, i < l.length → l.getD i z2 = m.getD i z2) : l = m := by
  refine List.ext_getElem hl fun i h1 h2 => ?_
  have := h i h1
  simpa [List.getD, h1, h2] using this

set_option maxHeartbeats 1000000 in
theorem eqS_same (a a' : Option Addr) (b off cap b' off' cap' : Nat) (l : List V2) (w : World) (h : Rd w a b off l) (h' : Rd w a' b' off' l) :
    Calls Tryz.prog 167 #[.slice a l.length cap, .slice a' l.length cap'] w fun e w' => e = .returned (.bool true) ∧ Below w.heap.size w w' := by
  obtain ⟨hh, hc, hs, _⟩ := h
  obtain ⟨hh', hc', _, _⟩ := h'
  obtain ⟨n, hn⟩ : ∃ n, n = l.length := ⟨_, rfl⟩
  rw [← hn] at hh hc hs hh' hc' ⊢
  clear hn
  go_enter Tryz.func167, Tryz.ntmps167
  go_wp2
  go_loopw [5] (fun i wr => ∃ k : Nat, k ≤ n ∧ i = .int .i64 k ∧ Below w.heap.size w wr) (fun i _ => n - (intOf i).toNat)
  case atStart => exact ⟨0, Nat.zero_le _, rfl, Below.refl _ _⟩
  case round =>
    obtain ⟨k, hk, rfl, hbel⟩ := hrel
    by_cases hlt : k < n
    · obtain rfl := hh (by omega)
      obtain rfl := hh' (by omega)
      have hkz : (k : Int) < (n : Int) := by omega
      obtain ⟨c0, c1⟩ := (hc k hlt).of hbel (hc k hlt).lt
      obtain ⟨d0, d1⟩ := (hc' k hlt).of hbel (hc' k hlt).lt
      generalize l.getD k z2 = x at c0 c1 d0 d1
      clear hc hc' hh hh'
      go_wp2
      go_region_with (go_at_call 162; refine (eqV_any x x _).mono ?_; rw [decide_eq_true rfl]; rintro e w1 ⟨rfl, hb⟩)
      all_goals go_wp2
      all_goals go_roundw
      all_goals first
        | exact ⟨k + 1, by omega, by go_num, Rw.next (by repeat (first | exact hbel | apply Below.drew)) hb⟩
        | (simp [intOf]; omega)
    · have he : k = n := by omega
      subst he
      go_wp2
      go_ret
      exact ⟨rfl, hbel⟩
set_option maxHeartbeats 1000000 in
theorem eqR_same (a a' : Option Addr) (b off cap b' off' cap' : Nat) (l : List V2) (w : World) (h : Rd w a b off l) (h' : Rd w a' b' off' l) :
    Calls Tryz.prog 153 #[.agg #[.slice a l.length cap], .agg #[.slice a' l.length cap']] w fun e w' => e = .returned (.bool true) ∧ Below w.heap.size w w' := by
  have B := below_alloc2 w (.cells #[.slice a l.length cap] 149) (.cells #[.slice a' l.length cap'] 149)
  have h1 := h.below B
  have h2 := h'.below B
  go_enter Tryz.func153, Tryz.ntmps153
  go_wp2_with (go_at_call 167; refine (eqS_same _ _ _ _ _ _ _ _ _ _ h1 h2).mono ?_; rintro e w1 ⟨rfl, hb⟩)
  go_ret
  exact ⟨rfl, Rw.next B hb⟩

/-- Is the row right? -/
def rowB (l : List V2) : Bool := decide (l.length ≤ 6) && l.all valB
theorem row_bad {l : List V2} {k : Nat} (hk : k < l.length) (h : valB (l.getD k z2) = false) : rowB l = false := by
  unfold rowB
  rw [Bool.and_eq_false_iff]
  right
  rw [List.all_eq_false]
  exact ⟨l[k], List.getElem_mem hk, by simpa [List.getD, hk] using h⟩
theorem row_good {l : List V2} (h6 : l.length ≤ 6) (h : ∀ i, i < l.length → valB (l.getD i z2) = true) : rowB l = true := by
  unfold rowB
  rw [Bool.and_eq_true]
  refine ⟨decide_eq_true h6, List.all_eq_true.2 fun x hx => ?_⟩
  obtain ⟨i, hi, rfl⟩ := List.getElem_of_mem hx
  simpa [List.getD, hi] using h i hi
theorem row_at {l : List V2} (h : rowB l = true) : l.length ≤ 6 ∧ ∀ i, i < l.length → valB (l.getD i z2) = true := by
  unfold rowB at h
  rw [Bool.and_eq_true] at h
  refine ⟨of_decide_eq_true h.1, fun i hi => ?_⟩
  have := List.all_eq_true.1 h.2 _ (List.getElem_mem hi)
  simpa [List.getD, hi] using this
theorem row_long {l : List V2} (h : 6 < l.length) : rowB l = false := by
  unfold rowB; rw [decide_eq_false (by omega)]; rfl

theorem clo_any (n : Int) (s : ByteArray) (w : World) (hs : s.size ≤ maxLen) :
    Calls Tryz.prog 164 #[.agg #[.int .i64 n, .string s]] w fun e w' => e = .returned (.bool (!valB (n, s))) ∧ Below w.heap.size w w' := by
  have B := below_alloc1 w (.cells #[.int .i64 n, .string s] 92)
  go_enter Tryz.func164, Tryz.ntmps164
  go_wp2_with (go_at_call 143; refine (ok2I _ _ _ hs).mono ?_; rintro e w1 ⟨rfl, hb⟩)
  go_ret
  exact ⟨rfl, Rw.next B hb⟩

set_option maxHeartbeats 1000000 in
theorem index_any (a : Option Addr) (b off cap : Nat) (l : List V2) (w : World) (h : Rd w a b off l) :
    Calls Tryz.prog 169 #[.slice a l.length cap, .func (.func 164) #[] #[]] w fun e w' => Below w.heap.size w w' ∧ ∃ r : Int, e = .returned (.int .i64 r) ∧ (!decide (0 ≤ r)) = l.all valB := by
  obtain ⟨hh, hc, hs, hz⟩ := h
  have HB : Hid (∀ k, k < l.length → valB (l.getD k z2) = false → l.all valB = false) := fun k hk h => by
    rw [List.all_eq_false]; exact ⟨l[k], List.getElem_mem hk, by simpa [List.getD, hk] using h⟩
  have HG : Hid ((∀ i, i < l.length → valB (l.getD i z2) = true) → l.all valB = true) := fun h => by
    refine List.all_eq_true.2 fun x hx => ?_
    obtain ⟨i, hi, rfl⟩ := List.getElem_of_mem hx
    simpa [List.getD, hi] using h i hi
  generalize l.all valB = R at HB HG ⊢
  obtain ⟨n, hn⟩ : ∃ n, n = l.length := ⟨_, rfl⟩
  rw [← hn] at hh hc hs hz HB HG ⊢
  clear hn
  go_enter Tryz.func169, Tryz.ntmps169
  go_wp2
  go_loopw [8] (fun i wr => ∃ k : Nat, k ≤ n ∧ i = .int .i64 k ∧ Below w.heap.size w wr ∧ ∀ i, i < k → valB (l.getD i z2) = true) (fun i _ => n - (intOf i).toNat)
  case atStart => exact ⟨0, Nat.zero_le _, rfl, Below.refl _ _, fun i hi => by omega⟩
  case round =>
    obtain ⟨k, hk, rfl, hbel, hpre⟩ := hrel
    have HP : Hid (∀ i, i < k → valB (l.getD i z2) = true) := hpre
    clear hpre
    by_cases hlt : k < n
    · obtain rfl := hh (by omega)
      have hkz : (k : Int) < (n : Int) := by omega
      obtain ⟨c0, c1⟩ := (hc k hlt).of hbel (hc k hlt).lt
      have hz1 := hz k hlt
      have HB1 : Hid (valB (l.getD k z2) = false → R = false) := HB.out k hlt
      have HX : Hid (valB (l.getD k z2) = true → ∀ i, i < k + 1 → valB (l.getD i z2) = true) := fun h i hi => by
        by_cases e : i = k
        · subst e; exact h
        · exact HP.out i (by omega)
      generalize l.getD k z2 = x at c0 c1 hz1 HB1 HX
      obtain ⟨x0, x1⟩ := x
      simp only at c0 c1 hz1
      have hS := fun W => clo_any x0 x1 W hz1
      cases hv : valB (x0, x1) with
      | true =>
        rw [hv] at hS
        go_wp2_with (go_at_call 164; refine (hS _).mono ?_; rintro e w1 ⟨rfl, hb⟩)
        go_roundw
        case rel => exact ⟨k + 1, by omega, by go_num, Rw.next hbel hb, HX.out hv⟩
        case measure => simp [intOf]; omega
      | false =>
        rw [hv] at hS
        go_wp2_with (go_at_call 164; refine (hS _).mono ?_; rintro e w1 ⟨rfl, hb⟩)
        go_ret
        exact ⟨Rw.next hbel hb, _, rfl, by rw [HB1.out hv]; simp⟩
    · have he : k = n := by omega
      subst he
      go_wp2
      go_ret
      exact ⟨hbel, _, rfl, by rw [HG.out HP.out]; rfl⟩

theorem contains_any (a : Option Addr) (b off cap : Nat) (l : List V2) (w : World) (h : Rd w a b off l) :
    Calls Tryz.prog 163 #[.slice a l.length cap, .func (.func 164) #[] #[]] w fun e w' => e = .returned (.bool (!l.all valB)) ∧ Below w.heap.size w w' := by
  go_enter Tryz.func163, Tryz.ntmps163
  go_wp2_with (go_at_call 169; refine (index_any _ _ _ _ _ _ h).mono ?_; rintro e w1 ⟨hb, r, rfl, hr⟩; have HR : Hid ((!decide (0 ≤ r)) = l.all valB) := hr; clear hr)
  go_ret
  exact ⟨ret_bool (by rw [← HR.out]; simp), hb⟩

set_option maxHeartbeats 1000000 in
theorem rowI_any (a : Option Addr) (b off cap : Nat) (l : List V2) (w : World) (h : Rd w a b off l) :
    Calls Tryz.prog 145 #[.agg #[.slice a l.length cap]] w fun e w' => e = .returned (.bool (rowB l)) ∧ Below w.heap.size w w' := by
  have B := below_alloc1 w (.cells #[.slice a l.length cap] 149)
  by_cases h6 : l.length ≤ 6
  · have h6' : ((l.length : Int) ≤ 6) := by omega
    have hC := contains_any a b off cap l _ (h.below B)
    have HR : Hid (rowB l = l.all valB) := by unfold Hid rowB; rw [decide_eq_true h6]; rfl
    go_enter Tryz.func145, Tryz.ntmps145
    go_wp2_with (go_at_call 163; refine hC.mono ?_; rintro e w1 ⟨rfl, hb⟩)
    go_ret
    exact ⟨ret_bool HR.out.symm, Rw.next B hb⟩
  · have h6' : ¬ ((l.length : Int) ≤ 6) := by omega
    have HR : Hid (rowB l = false) := row_long (by omega)
    clear h6
    go_enter Tryz.func145, Tryz.ntmps145
    go_wp2
    go_ret
    exact ⟨ret_bool HR.out.symm, B⟩

end Go.Proofs.YtljlgjgfmgilaaaGreat.Vl
