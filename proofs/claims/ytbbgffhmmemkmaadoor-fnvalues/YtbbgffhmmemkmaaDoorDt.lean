/-
  Both TextValue.
-/
import Derived.Test.YtbbgffhmmemkmaaDoorTn
import Derived.Test.YtbbgffhmmemkmaaDoorVo
namespace Go.Proofs.YtbbgffhmmemkmaaDoor.Vl
set_option maxRecDepth 8000
set_option linter.unusedSimpArgs false
set_option linter.unusedVariables false
open Go Go.RowKit
open Num Word Pl

instance decD (c : UInt8) : Decidable (Tn.isD c) := by unfold Tn.isD; exact inferInstance
instance decGood (s : ByteArray) : Decidable (Tn.good s) := by unfold Tn.good; exact inferInstance
/-- What is read of a text: a word, a number, or nothing. -/
def tvN (s : ByteArray) : Int := if wordB s = true then 0 else if Tn.good s then ((Tn.dv 0 s.data.toList : Nat) : Int) else 0
def tvS (s : ByteArray) : ByteArray := if wordB s = true then s else ⟨#[]⟩
def tvB (s : ByteArray) : Bool := wordB s || decide (Tn.good s)

theorem word_good_no {s : ByteArray} (h : wordB s = true) : ¬ Tn.good s := by
  intro hg
  have h1 : 1 ≤ s.size := hg.1
  have hs : 0 < s.size := h1
  have hd := hg.2.2.1 _ (Tn.mem_at s 0 hs)
  unfold wordB at h
  have := (of_decide_eq_true h).2.2 0 hs
  unfold gd at this
  have hc := ch_at s 0 hs
  simp at this
  unfold Tn.isD at hd
  omega

theorem tv_word {s : ByteArray} (h : wordB s = true) : tvN s = 0 ∧ tvS s = s ∧ tvB s = true := by simp [tvN, tvS, tvB, h]
theorem tv_num {s : ByteArray} (h : wordB s = false) (hg : Tn.good s) : tvN s = ((Tn.dv 0 s.data.toList : Nat) : Int) ∧ tvS s = ⟨#[]⟩ ∧ tvB s = true := by simp [tvN, tvS, tvB, h, hg]
theorem tv_none {s : ByteArray} (h : wordB s = false) (hg : ¬ Tn.good s) : tvN s = 0 ∧ tvS s = ⟨#[]⟩ ∧ tvB s = false := by simp [tvN, tvS, tvB, h, hg]

set_option maxHeartbeats 1000000 in
theorem tvS_any (s : ByteArray) (w : World) (hs : s.size ≤ maxLen) :
    Calls Tryd.prog 11 #[.string s] w fun e w' => e = .returned (.tuple #[.agg #[.int .i64 (tvN s), .string (tvS s)], .bool (tvB s)]) ∧ Below w.heap.size w w' := by
  have B := below_alloc1 w (.cells #[.int .i64 0, .string ⟨#[]⟩] 24)
  obtain ⟨W1, hW1⟩ : ∃ W1, W1 = w.alloc (.cells #[.int .i64 0, .string ⟨#[]⟩] 24) := ⟨_, rfl⟩
  rw [← hW1] at B
  have k0 : W1.heap[w.heap.size]? = some (.cells #[.int .i64 0, .string ⟨#[]⟩] 24 (0, 0)) := by subst hW1; exact at_new rfl
  by_cases hg : Tn.good s
  · have hw : wordB s = false := by
      cases e : wordB s with
      | false => rfl
      | true => exact absurd hg (word_good_no e)
    obtain ⟨e1, e2, e3⟩ := tv_num hw hg
    rw [e1, e2, e3]
    clear e1 e2 e3
    go_enter Tryd.func11, Tryd.ntmps11
    go_wp2_with (go_at_call 21; rw [← hW1]; clear hW1; refine (Tn.specTn_any s _ hs).mono ?_; rintro e w1 ⟨hor, hb⟩; replace hor := (hor.resolve_right (fun q => q.1 hg)).2; subst hor; replace k0 := (hb.block _ (blk_lt k0)).trans k0; obtain ⟨p0, p1⟩ := two k0; have f0 : ∀ i, w1.frozen? ⟨w.heap.size, i, none⟩ = false := fun i => by simp [World.frozen?, k0])
    refine bodyPost_ret (v := .tuple #[.agg #[.int .i64 (Tn.dv 0 s.data.toList : Nat), .string ⟨#[]⟩], .bool true]) (by simp [results, Tryd.results11, go_sem, p0, p1]) rfl ⟨rfl, ?_⟩
    exact ((Rw.next B hb).setCell (by simp) _).setCell (by simp) _
  · cases hw : wordB s with
    | true =>
      obtain ⟨e1, e2, e3⟩ := tv_word hw
      rw [e1, e2, e3]
      clear e1 e2 e3
      go_enter Tryd.func11, Tryd.ntmps11
      go_wp2_with (first
        | (go_at_call 21; rw [← hW1]; clear hW1; refine (Tn.specTn_any s _ hs).mono ?_; rintro e w1 ⟨hor, hb⟩; replace hor := (hor.resolve_left (fun q => hg q.1)).2; subst hor; replace k0 := (hb.block _ (blk_lt k0)).trans k0; obtain ⟨p0, p1⟩ := two k0; have f0 : ∀ i, w1.frozen? ⟨w.heap.size, i, none⟩ = false := fun i => by simp [World.frozen?, k0])
        | (go_at_call 17; refine (specWord_any s _ hs).mono ?_; rw [hw]; rintro e w2 ⟨rfl, rfl⟩))
      refine bodyPost_ret (v := .tuple #[.agg #[.int .i64 0, .string s], .bool true]) (by simp [results, Tryd.results11, go_sem, p0, p1]) rfl ⟨rfl, ?_⟩
      exact ((Rw.next B hb).setCell (by simp) _).setCell (by simp) _
    | false =>
      obtain ⟨e1, e2, e3⟩ := tv_none hw hg
      rw [e1, e2, e3]
      clear e1 e2 e3
      go_enter Tryd.func11, Tryd.ntmps11
      go_wp2_with (first
        | (go_at_call 21; rw [← hW1]; clear hW1; refine (Tn.specTn_any s _ hs).mono ?_; rintro e w1 ⟨hor, hb⟩; replace hor := (hor.resolve_left (fun q => hg q.1)).2; subst hor; replace k0 := (hb.block _ (blk_lt k0)).trans k0; obtain ⟨p0, p1⟩ := two k0; have f0 : ∀ i, w1.frozen? ⟨w.heap.size, i, none⟩ = false := fun i => by simp [World.frozen?, k0])
        | (go_at_call 17; refine (specWord_any s _ hs).mono ?_; rw [hw]; rintro e w2 ⟨rfl, rfl⟩))
      refine bodyPost_ret (v := .tuple #[.agg #[.int .i64 0, .string ⟨#[]⟩], .bool false]) (by simp [results, Tryd.results11, go_sem, p0, p1]) rfl ⟨rfl, ?_⟩
      exact ((Rw.next B hb).setCell (by simp) _).setCell (by simp) _

/-- What the walk is told of the library's variables. -/
structure Laid (w : World) : Prop where
  tab : Lib.TabIs Tryd.prog w "internal/strconv.uint64pow10" .u64 Lib.pow10Tab
  syn : ∃ te pe, w.cell? ⟨0, 0, none⟩ = some (.iface te pe)
  rng : ∃ te pe, w.cell? ⟨1, 0, none⟩ = some (.iface te pe)
theorem Laid.below {w w' : World} (h : Laid w) (hb : Below w.heap.size w w') : Laid w' := by
  obtain ⟨t1, t2, ht⟩ := h.syn
  obtain ⟨r1, r2, hr⟩ := h.rng
  exact ⟨Joins.var_stays Tn.gPow h.tab hb (Nat.le_refl _), ⟨t1, t2, (hb.cell (World.block_lt_of_cell? _ _ ht)).trans ht⟩, ⟨r1, r2, (hb.cell (World.block_lt_of_cell? _ _ hr)).trans hr⟩⟩

theorem tn_any (s : ByteArray) (w : World) (hlim : s.size ≤ 1048576) (hL : Laid w) :
    Calls Tryd.prog 20 #[.string s] w fun e w' => ((Tn.good s ∧ e = .returned (.tuple #[.int .i64 (Tn.dv 0 s.data.toList : Nat), .bool true])) ∨ (¬ Tn.good s ∧ e = .returned (.tuple #[.int .i64 0, .bool false]))) ∧ Below w.heap.size w w' := by
  obtain ⟨t0, p0, hv0⟩ := hL.syn
  obtain ⟨t1, p1, hv1⟩ := hL.rng
  exact Tn.implTn_any s w hlim _ _ hv0 (Or.inr ⟨_, _, rfl⟩) hv1 (Or.inr ⟨_, _, rfl⟩) hL.tab

set_option maxHeartbeats 1000000 in
theorem tvI_any (s : ByteArray) (w : World) (hs : s.size ≤ 1048576) (hL : Laid w) :
    Calls Tryd.prog 9 #[.string s] w fun e w' => e = .returned (.tuple #[.agg #[.int .i64 (tvN s), .string (tvS s)], .bool (tvB s)]) ∧ Below w.heap.size w w' := by
  have hm : s.size ≤ maxLen := by unfold maxLen; omega
  have B := below_alloc1 w (.cells #[.int .i64 0, .string ⟨#[]⟩] 24)
  obtain ⟨W1, hW1⟩ : ∃ W1, W1 = w.alloc (.cells #[.int .i64 0, .string ⟨#[]⟩] 24) := ⟨_, rfl⟩
  rw [← hW1] at B
  replace hL := hL.below B
  have k0 : W1.heap[w.heap.size]? = some (.cells #[.int .i64 0, .string ⟨#[]⟩] 24 (0, 0)) := by subst hW1; exact at_new rfl
  cases hw : wordB s with
  | true =>
    obtain ⟨e1, e2, e3⟩ := tv_word hw
    rw [e1, e2, e3]
    clear e1 e2 e3
    go_enter Tryd.func9, Tryd.ntmps9
    go_wp2_with (go_at_call 19; rw [← hW1]; clear hW1; refine (implWord_any s _ hm).mono ?_; rw [hw]; rintro e w2 ⟨rfl, hw2⟩; replace hw2 := hw2.symm; subst hw2; obtain ⟨p0, p1⟩ := two k0; have f0 : ∀ i, W1.frozen? ⟨w.heap.size, i, none⟩ = false := fun i => by simp [World.frozen?, k0])
    refine bodyPost_ret (v := .tuple #[.agg #[.int .i64 0, .string s], .bool true]) (by simp [results, Tryd.results9, go_sem, p0, p1]) rfl ⟨rfl, ?_⟩
    exact (B.setCell (by simp) _).setCell (by simp) _
  | false =>
    by_cases hg : Tn.good s
    · obtain ⟨e1, e2, e3⟩ := tv_num hw hg
      rw [e1, e2, e3]
      clear e1 e2 e3
      go_enter Tryd.func9, Tryd.ntmps9
      go_wp2_with (first
        | (go_at_call 19; rw [← hW1]; clear hW1; refine (implWord_any s _ hm).mono ?_; rw [hw]; rintro e w2 ⟨rfl, hw2⟩; replace hw2 := hw2.symm; subst hw2)
        | (go_at_call 20; refine (tn_any s _ hs hL).mono ?_; rintro e w1 ⟨hor, hb⟩; replace hor := (hor.resolve_right (fun q => q.1 hg)).2; subst hor; replace k0 := (hb.block _ (blk_lt k0)).trans k0; obtain ⟨p0, p1⟩ := two k0; have f0 : ∀ i, w1.frozen? ⟨w.heap.size, i, none⟩ = false := fun i => by simp [World.frozen?, k0]))
      refine bodyPost_ret (v := .tuple #[.agg #[.int .i64 (Tn.dv 0 s.data.toList : Nat), .string ⟨#[]⟩], .bool true]) (by simp [results, Tryd.results9, go_sem, p0, p1]) rfl ⟨rfl, ?_⟩
      exact ((Rw.next B hb).setCell (by simp) _).setCell (by simp) _
    · obtain ⟨e1, e2, e3⟩ := tv_none hw hg
      rw [e1, e2, e3]
      clear e1 e2 e3
      go_enter Tryd.func9, Tryd.ntmps9
      go_wp2_with (first
        | (go_at_call 19; rw [← hW1]; clear hW1; refine (implWord_any s _ hm).mono ?_; rw [hw]; rintro e w2 ⟨rfl, hw2⟩; replace hw2 := hw2.symm; subst hw2)
        | (go_at_call 20; refine (tn_any s _ hs hL).mono ?_; rintro e w1 ⟨hor, hb⟩; replace hor := (hor.resolve_left (fun q => hg q.1)).2; subst hor; replace k0 := (hb.block _ (blk_lt k0)).trans k0; obtain ⟨p0, p1⟩ := two k0; have f0 : ∀ i, w1.frozen? ⟨w.heap.size, i, none⟩ = false := fun i => by simp [World.frozen?, k0]))
      refine bodyPost_ret (v := .tuple #[.agg #[.int .i64 0, .string ⟨#[]⟩], .bool false]) (by simp [results, Tryd.results9, go_sem, p0, p1]) rfl ⟨rfl, ?_⟩
      exact ((Rw.next B hb).setCell (by simp) _).setCell (by simp) _

theorem eqV_same (n : Int) (s : ByteArray) (w : World) :
    Calls Tryd.prog 12 #[.agg #[.int .i64 n, .string s], .agg #[.int .i64 n, .string s]] w fun e w' => e = .returned (.bool true) ∧ Below w.heap.size w w' := by
  have B := below_alloc2 w (.cells #[.int .i64 n, .string s] 24) (.cells #[.int .i64 n, .string s] 24)
  have hq : (s.toList == s.toList) = true := by simp
  go_enter Tryd.func12, Tryd.ntmps12
  go_wp2
  go_ret
  exact ⟨ret_bool (by simp), B⟩

end Go.Proofs.YtbbgffhmmemkmaaDoor.Vl
