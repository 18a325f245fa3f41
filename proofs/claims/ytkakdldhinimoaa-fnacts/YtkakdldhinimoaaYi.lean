/-
  headBy and HeadSet, what they hand back in memory of the call's own; append to an own row of integers.
-/
import Derived.Test.YtkakdldhinimoaaHs
import Derived.Laws.CopyOwn
namespace Go.Proofs.Ytkakdldhinimoaa.Ht
set_option maxRecDepth 8000
open Go Go.RowKit
open Num Pl Hr Hh Hf Hg Hb Hs

set_option maxHeartbeats 1000000 in
theorem by115 (p1 p2 p3 : Value) (L : List Int) (hL : L.length = 8) (w : World) (H : Tells 115 p1 p2 p3 L w) :
    Calls Try.prog 114 #[.func (.func 115) #[] #[p1, p2, p3]] w (Made w L) := by
  have B0 := Rw.next (below_alloc1 w (.cells #[.slice none 0 0] 42)) (below_alloc1 _ (.cells (madeCells #[.int .i64 0] 8) 3))
  have k0 : ((w.alloc (.cells #[.slice none 0 0] 42)).alloc (.cells (madeCells #[.int .i64 0] 8) 3)).heap[w.heap.size]? = some (.cells #[.slice none 0 0] 42 (0, 0)) := by rw [at_old (by simp), at_new rfl]
  have r0 := World.rowIs_made (w.alloc (.cells #[.slice none 0 0] 42)) (.int .i64 0) 8 3
  have hmk := run_make_row' (P := Try.prog) 22 3 (.int .i64 0) 8 Try.underlying22 info3 rfl .i64 .i64 8 (by omega) (by omega)
  have e8 : ((8 : Nat) : Int) = 8 := rfl
  rw [e8] at hmk
  have HH : Hid (Tells 115 p1 p2 p3 L w) := H
  have HL : Hid (L.length = 8) := hL
  clear H hL
  go_enter Try.func114, Try.ntmps114
  go_wp2
  clear hmk
  go_loopw [8, 4] (fun i _ wr => ∃ k : Nat, k ≤ 8 ∧ i = .int .i64 k ∧ Below w.heap.size w wr ∧ wr.heap[w.heap.size]? = some (.cells #[.slice none 0 0] 42 (0, 0)) ∧ wr.rowIs (w.heap.size + 1) 3 8 (Hr.part L k)) (fun i _ _ => 8 - (intOf i).toNat)
  case atStart => exact ⟨0, Nat.zero_le _, rfl, B0, k0, by simpa using r0.congr (fun i _ => by simp [Hr.part])⟩
  case round =>
    obtain ⟨k, hk, rfl, hbel, kr, hrow⟩ := hrel
    clear B0 k0 r0
    by_cases hlt : k < 8
    · have hkz : (k : Int) < 8 := by omega
      have hcall := HH.out k hlt wr hbel
      have g1 : wr.cell? ⟨w.heap.size + 1, k, none⟩ = some (Hr.part L k k) := hrow.cell hlt
      have g2 : wr.frozen? ⟨w.heap.size + 1, k, none⟩ = false := hrow.frozen k
      clear HH
      go_wp2_with (go_at_call 115; refine hcall.mono ?_; rintro e w' ⟨rfl, hw'⟩; replace hw' := hw'.symm; subst hw')
      go_roundw
      case rel => exact ⟨k + 1, by omega, by go_num, hbel.setCell (by simp) _, (Below.heap_setCell _ _ _ _ (by simp)).trans kr, by have := HL.out; rw [← this] at hrow ⊢; exact Hr.part_step hrow⟩
      case measure => simp [intOf]; omega
    · have he : k = 8 := by omega
      subst he
      clear HH hlt
      have c0 := one kr
      have f0 := Bl.free kr
      go_wp2
      refine bodyPost_ret (v := .agg #[.slice (some ⟨w.heap.size + 1, 0, none⟩) 8 8]) (by simp [results, Try.results114, go_sem, c0]) rfl ⟨_, rfl, ?_, by omega, ?_⟩
      · have hm : Mine wr (w.heap.size + 1) L := ⟨by rw [HL.out]; exact hrow.congr (fun i hi => by simp [Hr.part, hi]), by rw [HL.out]; decide⟩
        exact hm.set (by simp)
      · exact hbel.setCell (by simp) _

/-- A slice of the call's own, not nil, that holds the integers l. -/
def HasN (w : World) (base : Nat) (v : Value) (l : List Int) : Prop := w.ownsRow base 3 1 v l.length (l.map (Value.int .i64)) ∧ v ≠ .slice none 0 0

theorem news_of {w : World} {ad : Addr} {b off : Nat} {m : List Int} (hr : Rd w (some ad) b off m) : ∀ j u, (m.map (Value.int .i64))[j]? = some u → w.cell? (ad.add j) = some u := by
  intro j u hj
  have hjl : j < m.length := by have := (List.getElem?_eq_some_iff.1 hj).1; simpa using this
  have hcj := hr.cell j hjl
  have e : u = .int .i64 (m.getD j 0) := by simp [hjl] at hj; rw [← hj]; simp [List.getD, hjl]
  subst e
  have hd := hr.head (by omega)
  injection hd with hd
  subst hd
  by_cases ej : j = 0
  · subst ej; simpa [Addr.add] using hcj
  · simpa [Addr.add, ej] using hcj

theorem hasN_form {w : World} {B : Nat} {v : Value} {l : List Int} (h : HasN w B v l) (hs : l.length ≤ 4194304) :
    ∃ g cap, v = .slice (some ⟨g, 0, none⟩) l.length cap ∧ B ≤ g ∧ Wt w (some ⟨g, 0, none⟩) g l ∧ l.length ≤ cap := by
  rcases h.1.2 with ⟨rfl, _⟩ | ⟨g, cap, cur, rfl, hb, hh, hn, _, _, ht⟩
  · exact absurd rfl h.2
  · refine ⟨g, cap, rfl, hb, ⟨fun _ => rfl, fun i hi => ?_, fun i _ => by simp [World.frozen?, hh], hs⟩, hn⟩
    have := h.1.cells (g := g) rfl i (.int .i64 (l.getD i 0)) (by simp [hi, List.getD])
    by_cases ei : i = 0
    · subst ei; simpa [Addr.add] using this
    · simpa [Addr.add, ei] using this

theorem own_emptyN (w : World) : HasN (w.alloc (.cells #[] 3)) w.heap.size (.slice (some ⟨w.heap.size, 0, none⟩) 0 0) [] := ⟨by simpa using World.ownsRow_made (size := 1) (e := 3) w #[] 0 (Nat.le_refl _) (Nat.zero_le _) rfl, by simp⟩

theorem below_own {w w1 w2 : World} {B : Nat} {v : Value} {l : List Int} (h : HasN w1 B v l) (hb : Below w.heap.size w w1) (hB : w.heap.size ≤ B) (hg : w1.grownBy w2 v.ownBlock) : Below w.heap.size w w2 :=
  hb.grown hg hb.size (fun k hk => by have := (h.1.lt k hk).1; omega)

theorem wpList_appN {ops : Array Oper} {rest : List Oper} {o : Oper} {a : Act} {w : World} {Q : Exit → Act → World → Prop} (hgd : o.guard = none) (s x : Operand)
    (ho : o.op = .call { callee := .builtin .append, args := #[s, x], argTypes := #[22, 22] }) (base : Nat) (v : Value) (l m : List Int) (hs : a.eval s = v) (hown : HasN w base v l)
    (ad : Addr) (b off c : Nat) (hx : a.eval x = .slice (some ad) m.length c) (hr : Rd w (some ad) b off m) (hb : l.length + m.length ≤ 8388608) (hbase : base ≤ w.heap.size)
    (h : ∀ v' w', HasN w' base v' (l ++ m) → w.grownBy w' v.ownBlock → wpList Try.prog ops Q rest (a.put o.dst v') w') : wpList Try.prog ops Q (o :: rest) a w := by
  obtain ⟨i0, hi, hz0, hz1, hz2⟩ := info_parts info3
  refine wpList_append_own _ hgd s x 22 ho base 3 i0 (.int .i64 0) 1 8 Try.underlying22 hi hz0 hz1 hz2 rfl (by decide) v l.length (l.map (Value.int .i64)) hs hown.1 ad m.length c (m.map (Value.int .i64)) hx (by simp) (news_of hr) (by intro u hu; simp at hu; obtain ⟨q, _, rfl⟩ := hu; rfl) (by unfold maxLen; omega) (by omega) hbase ?_
  intro v' w' h1 h2 h3
  refine h v' w' ⟨by simpa using h1, fun e => ?_⟩ h2
  exact hown.2 (h3.1 e).1

/-- A head and a bool are handed back, the head in memory of the call's own. -/
def ResHB (w : World) (ok : Bool) (L : List Int) (e : Ending) (w' : World) : Prop :=
  ∃ a g cap, e = .returned (.tuple #[.agg #[.slice a L.length cap], .bool ok]) ∧ Wt w' a g L ∧ w.heap.size ≤ g ∧ Below w.heap.size w w'

theorem res_none {w w' : World} (h : Below w.heap.size w w') : ResHB w false [] (.returned (.tuple #[.agg #[.slice none 0 0], .bool false])) w' :=
  ⟨none, w.heap.size, 0, rfl, Wt.nil _ _ _, Nat.le_refl _, h⟩

theorem set_at {l : List Int} {F k : Nat} {v : Int} (hk : k < l.length) : (l.set F v).getD k 0 = if k = F then v else l.getD k 0 := by
  simp only [List.getD, List.getElem?_set]
  by_cases e : k = F
  · subst e; simp [hk]
  · have e' : ¬ F = k := fun h => e h.symm
    simp [e, e']

theorem fits_in {f v : Int} (h : fits f v = true) : ∃ F : Nat, f = F ∧ F < 8 := by
  by_cases h0 : f < 0 ∨ 8 ≤ f
  · rw [fits_out h0] at h; simp at h
  · exact ⟨f.toNat, by omega, by omega⟩
theorem head_len {l : List Int} (h : headB l = true) : l.length = 8 := by
  unfold headB at h
  simp at h
  exact h.1

set_option maxHeartbeats 1000000 in
theorem tells115 (g1 g2 g3 F b off cap : Nat) (v : Int) (l : List Int) (w : World) (hl : l.length = 8) (h1 : w.cell? ⟨g1, 0, none⟩ = some (.int .i64 (F : Int))) (h2 : w.cell? ⟨g2, 0, none⟩ = some (.int .i64 v)) (h3 : w.cell? ⟨g3, 0, none⟩ = some (.slice (some ⟨b, off, none⟩) 8 cap)) (hr : Rd w (some ⟨b, off, none⟩) b off l) :
    Tells 115 (.pointer (some ⟨g1, 0, none⟩)) (.pointer (some ⟨g2, 0, none⟩)) (.pointer (some ⟨g3, 0, none⟩)) (l.set F v) w := by
  intro k hk w' hb
  have c1 := (hb.cell (World.block_lt_of_cell? _ _ h1)).trans h1
  have c2 := (hb.cell (World.block_lt_of_cell? _ _ h2)).trans h2
  have c3 := (hb.cell (World.block_lt_of_cell? _ _ h3)).trans h3
  have c4 := (hr.below hb).cell k (by omega)
  rw [set_at (by omega)]
  generalize l.getD k 0 = x at *
  have hkz : (k : Int) < 8 := by omega
  clear h1 h2 h3 hb hr hl
  by_cases e : k = F
  · subst e
    rw [if_pos rfl]
    go_enter Try.func115, Try.ntmps115
    go_wp2
    go_ret
    exact ⟨rfl, rfl⟩
  · rw [if_neg e]
    have e' : ((k : Int) == (F : Int)) = false := by simp; omega
    clear e
    go_enter Try.func115, Try.ntmps115
    go_wp2
    go_ret
    exact ⟨rfl, rfl⟩

set_option maxHeartbeats 2000000 in
theorem implSet_no1 (f v : Int) (a : Option Addr) (b off cap : Nat) (l : List Int) (w : World) (h : Rd w a b off l) (hB : headB l = false) :
    Calls Try.prog 98 #[.agg #[.slice a l.length cap], .int .i64 f, .int .i64 v] w (ResHB w false []) := by
  obtain ⟨W0, hW0⟩ : ∃ W0, W0 = (((w.alloc (.cells #[.slice a l.length cap] 42)).alloc (.cells #[.int .i64 f] 3)).alloc (.cells #[.int .i64 v] 3)).alloc (.cells #[.slice none 0 0] 42) := ⟨_, rfl⟩
  have B0 : Below w.heap.size w W0 := by subst hW0; exact Rw.next (Rw.next (Rw.next (below_alloc1 _ _) (below_alloc1 _ _)) (below_alloc1 _ _)) (below_alloc1 _ _)
  have q4 : W0.heap[w.heap.size + 1 + 1 + 1]? = some (.cells #[.slice none 0 0] 42 (0, 0)) := by subst hW0; exact at_new (by simp)
  have z0 : w.heap.size + 1 + 1 + 1 < W0.heap.size := by subst hW0; simp
  have hOk := implOk_any _ _ _ cap _ _ (h.below B0)
  rw [hB] at hOk
  clear h hB
  go_enter Try.func98, Try.ntmps98
  go_wp2_with (go_at_call 41; rw [← hW0]; refine hOk.mono ?_; rintro e w2 ⟨rfl, hb⟩; clear hOk hW0; replace q4 := (hb.block _ z0).trans q4; replace B0 := Rw.next B0 hb; clear hb; have c4 := one q4; have f4 := Bl.free q4)
  refine bodyPost_ret (v := .tuple #[.agg #[.slice none 0 0], .bool false]) (by simp [results, Try.results98, go_sem, c4]) rfl (res_none ?_)
  exact B0.setCell (by simp <;> omega) _

set_option maxHeartbeats 2000000 in
theorem implSet_no2 (f v : Int) (a : Option Addr) (b off cap : Nat) (l : List Int) (w : World) (h : Rd w a b off l) (hB : headB l = true) (hF : fits f v = false) :
    Calls Try.prog 98 #[.agg #[.slice a l.length cap], .int .i64 f, .int .i64 v] w (ResHB w false []) := by
  obtain ⟨W0, hW0⟩ : ∃ W0, W0 = (((w.alloc (.cells #[.slice a l.length cap] 42)).alloc (.cells #[.int .i64 f] 3)).alloc (.cells #[.int .i64 v] 3)).alloc (.cells #[.slice none 0 0] 42) := ⟨_, rfl⟩
  have B0 : Below w.heap.size w W0 := by subst hW0; exact Rw.next (Rw.next (Rw.next (below_alloc1 _ _) (below_alloc1 _ _)) (below_alloc1 _ _)) (below_alloc1 _ _)
  have q2 : W0.heap[w.heap.size + 1]? = some (.cells #[.int .i64 f] 3 (0, 0)) := by subst hW0; rw [at_old (by simp <;> omega), at_old (by simp), at_new (by simp)]
  have q3 : W0.heap[w.heap.size + 1 + 1]? = some (.cells #[.int .i64 v] 3 (0, 0)) := by subst hW0; rw [at_old (by simp), at_new (by simp)]
  have q4 : W0.heap[w.heap.size + 1 + 1 + 1]? = some (.cells #[.slice none 0 0] 42 (0, 0)) := by subst hW0; exact at_new (by simp)
  have z0 : w.heap.size + 1 + 1 + 1 < W0.heap.size := by subst hW0; simp
  have hOk := implOk_any _ _ _ cap _ _ (h.below B0)
  rw [hB] at hOk
  clear h hB
  go_enter Try.func98, Try.ntmps98
  go_wp2_with (first | (go_at_call 41; rw [← hW0]; refine hOk.mono ?_; rintro e w2 ⟨rfl, hb⟩; clear hOk hW0; replace q4 := (hb.block _ z0).trans q4; replace q3 := (hb.block _ (by omega)).trans q3; replace q2 := (hb.block _ (by omega)).trans q2; replace B0 := Rw.next B0 hb; clear hb; have c4 := one q4; have f4 := Bl.free q4; have c2 := one q2; have c3 := one q3) | (go_at_call 77; refine (implFits_any _ _ _).mono ?_; rw [hF]; rintro e w' ⟨rfl, hw'⟩; replace hw' := hw'.symm; subst hw'))
  refine bodyPost_ret (v := .tuple #[.agg #[.slice none 0 0], .bool false]) (by simp [results, Try.results98, go_sem, c4]) rfl (res_none ?_)
  exact B0.setCell (by simp <;> omega) _

set_option maxHeartbeats 2000000 in
theorem implSet_yes (F : Nat) (v : Int) (a : Option Addr) (b off cap : Nat) (l : List Int) (w : World) (h : Rd w a b off l) (hB : headB l = true) (hF : fits F v = true) :
    Calls Try.prog 98 #[.agg #[.slice a l.length cap], .int .i64 F, .int .i64 v] w fun e w' => ∃ g, e = .returned (.tuple #[.agg #[.slice (some ⟨g, 0, none⟩) 8 8], .bool true]) ∧ Mine w' g (l.set F v) ∧ w.heap.size ≤ g ∧ Below w.heap.size w w' := by
  have hl := head_len hB
  obtain ⟨rfl, _⟩ := at_rd h (k := 0) (by omega)
  obtain ⟨W0, hW0⟩ : ∃ W0, W0 = (((w.alloc (.cells #[.slice (some ⟨b, off, none⟩) 8 cap] 42)).alloc (.cells #[.int .i64 F] 3)).alloc (.cells #[.int .i64 v] 3)).alloc (.cells #[.slice none 0 0] 42) := ⟨_, rfl⟩
  have B0 : Below w.heap.size w W0 := by subst hW0; exact Rw.next (Rw.next (Rw.next (below_alloc1 _ _) (below_alloc1 _ _)) (below_alloc1 _ _)) (below_alloc1 _ _)
  have q1 : W0.heap[w.heap.size]? = some (.cells #[.slice (some ⟨b, off, none⟩) 8 cap] 42 (0, 0)) := by subst hW0; rw [at_old (by simp <;> omega), at_old (by simp <;> omega), at_old (by simp), at_new rfl]
  have q2 : W0.heap[w.heap.size + 1]? = some (.cells #[.int .i64 F] 3 (0, 0)) := by subst hW0; rw [at_old (by simp <;> omega), at_old (by simp), at_new (by simp)]
  have q3 : W0.heap[w.heap.size + 1 + 1]? = some (.cells #[.int .i64 v] 3 (0, 0)) := by subst hW0; rw [at_old (by simp), at_new (by simp)]
  have q4 : W0.heap[w.heap.size + 1 + 1 + 1]? = some (.cells #[.slice none 0 0] 42 (0, 0)) := by subst hW0; exact at_new (by simp)
  have z0 : w.heap.size + 1 + 1 + 1 < W0.heap.size := by subst hW0; simp
  have zK := z0
  have hr := h.below B0
  have hOk := implOk_any _ _ _ cap _ _ hr
  rw [hB, hl] at hOk
  have HN : Hid (∀ W, W.cell? ⟨w.heap.size + 1, 0, none⟩ = some (.int .i64 (F : Int)) → W.cell? ⟨w.heap.size + 1 + 1, 0, none⟩ = some (.int .i64 v) → W.cell? ⟨w.heap.size, 0, none⟩ = some (.slice (some ⟨b, off, none⟩) 8 cap) → Rd W (some ⟨b, off, none⟩) b off l → Calls Try.prog 114 #[.func (.func 115) #[] #[.pointer (some ⟨w.heap.size + 1, 0, none⟩), .pointer (some ⟨w.heap.size + 1 + 1, 0, none⟩), .pointer (some ⟨w.heap.size, 0, none⟩)]] W (Made W (l.set F v))) := fun W x1 x2 x3 x4 => by115 _ _ _ _ (by simp [hl]) W (tells115 _ _ _ F b off cap v l W hl x1 x2 x3 x4)
  have HL : Hid ((l.set F v).length = 8) := by unfold Hid; simp [hl]
  rw [hl]
  generalize l.set F v = L at *
  clear h hB hl
  go_enter Try.func98, Try.ntmps98
  go_wp2_with (first | (go_at_call 41; rw [← hW0]; refine hOk.mono ?_; rintro e w2 ⟨rfl, hb⟩; clear hOk hW0; replace q4 := (hb.block _ z0).trans q4; replace q3 := (hb.block _ (by omega)).trans q3; replace q2 := (hb.block _ (by omega)).trans q2; replace q1 := (hb.block _ (by omega)).trans q1; replace B0 := Rw.next B0 hb; replace hr := hr.below hb; replace z0 := Nat.lt_of_lt_of_le z0 hb.size; clear hb; have c2 := one q2; have c3 := one q3; have c1 := one q1) | (go_at_call 77; refine (implFits_any _ _ _).mono ?_; rw [hF]; rintro e w' ⟨rfl, hw'⟩; replace hw' := hw'.symm; subst hw') | (go_at_call 114; refine (HN.out _ c2 c3 c1 hr).mono ?_; rintro e w3 ⟨g, rfl, hM, hg, hb⟩; clear HN; replace q4 := (hb.block _ z0).trans q4; replace B0 := Rw.next B0 hb; clear hb; have c4 := one q4; have f4 := Bl.free q4))
  refine bodyPost_ret (v := .tuple #[.agg #[.slice (some ⟨g, 0, none⟩) 8 8], .bool true]) (by simp [results, Try.results98, go_sem, c4]) rfl ⟨g, rfl, ?_, ?_, ?_⟩
  · exact hM.set (by simp <;> omega)
  · omega
  · exact B0.setCell (by simp <;> omega) _

theorem wt_put {w : World} {g F : Nat} {l : List Int} {v : Int} (h : Wt w (some ⟨g, 0, none⟩) g l) : Wt (w.setCell ⟨g, F, none⟩ (.int .i64 v)) (some ⟨g, 0, none⟩) g (l.set F v) := by
  refine ⟨fun _ => rfl, fun i hi => ?_, fun i hi => ?_, by simpa using h.size⟩
  · have hi' : i < l.length := by simpa using hi
    rw [set_at hi']
    by_cases e : i = F
    · subst e
      rw [World.cell?_setCell_same _ _ _ (h.cell i hi'), if_pos rfl]
    · rw [World.cell?_setCell_other _ _ _ _ (by intro q; injection q with q1 q2; exact e q2.symm), h.cell i hi', if_neg e]
  · have hi' : i < l.length := by simpa using hi
    simpa using h.free i hi'

theorem grown_below {w w3 w4 : World} {o : Obj} (B0 : Below w.heap.size w (w3.alloc o)) (hg : (w3.alloc o).grownBy w4 (Value.ownBlock (.slice (some ⟨w3.heap.size, 0, none⟩) 0 0))) (h : w.heap.size ≤ w3.heap.size) : Below w.heap.size w w4 ∧ ∀ k, k < w3.heap.size → w4.heap[k]? = (w3.alloc o).heap[k]? := by
  constructor
  · refine B0.grown hg B0.size ?_
    intro k hk
    have e : w3.heap.size = k := by simpa [Value.ownBlock] using hk
    omega
  · intro k hk
    refine hg.block k (by simp; omega) ?_
    intro e
    have e' : k = w3.heap.size := by simpa [Value.ownBlock] using e
    omega

end Go.Proofs.Ytkakdldhinimoaa.Ht
