/-
  Contracts of one pair, of a match made of pairs, of pairs made of a match.
-/
import Derived.Test.YtcbgnfjnjfaacaaPa
import Derived.Test.YtcbgnfjnjfaacaaHg
import Derived.Test.YtcbgnfjnjfaacaaBv
import Derived.Deep.Cut
import Derived.Deep.CutRange
namespace Go.Proofs.Ytcbgnfjnjfaacaa.Pm
set_option maxRecDepth 8000
open Go Go.RowKit
open Num Pl Hr Hh Hf Hg Pa

/-- An integer of 64 bits. -/
def I64 (n : Int) : Prop := -9223372036854775808 ≤ n ∧ n < 9223372036854775808
/-- The value has no bit that the mask hasn't, and the mask fits the field. -/
def pairB (f v m : Int) : Bool := fits f m && decide (0 ≤ v ∧ v.toNat ||| m.toNat = m.toNat)

theorem fits_lt {f n : Int} (h : fits f n = true) : 0 ≤ n ∧ n < 281474976710656 := by
  unfold fits numOkB at h
  simp only [decide_eq_true_eq] at h
  obtain ⟨h1, h2, h3, h4⟩ := h
  refine ⟨h3, ?_⟩
  have : pw (fb f / 8).toNat ≤ pw 6 := Nat.pow_le_pow_right (by decide) (by omega)
  have e : pw 6 = 281474976710656 := by decide
  omega

theorem two {w : World} {g : Nat} {v0 v1 : Value} {t : TypeId} {fr : Nat × Nat} (k : w.heap[g]? = some (.cells #[v0, v1] t fr)) : w.cell? ⟨g, 0, none⟩ = some v0 ∧ w.cell? ⟨g, 1, none⟩ = some v1 := by
  simp [World.cell?, k]

set_option maxHeartbeats 1000000 in
theorem right_any (f v m : Int) (w : World) (hv : I64 v) :
    Calls Try.prog 125 #[.agg #[.int .i64 v, .int .i64 m], .int .i64 f] w fun e w' => e = .returned (.bool (pairB f v m)) ∧ Below w.heap.size w w' := by
  have hf := implFits_any f m (w.alloc (.cells #[.int .i64 v, .int .i64 m] 95))
  cases hx : fits f m with
  | false =>
    have HB : Hid (pairB f v m = false) := (by unfold pairB; rw [hx, Bool.false_and] : pairB f v m = false)
    rw [hx] at hf
    go_enter Try.func125, Try.ntmps125
    go_wp2_with (go_at_call 149; refine hf.mono ?_; rintro e w' ⟨rfl, hw'⟩; replace hw' := hw'.symm; subst hw')
    go_ret
    exact ⟨Num.ret_bool HB.out.symm, below_alloc1 _ _⟩
  | true =>
    have hm := fits_lt hx
    have HB : Hid ((bits .andNot .i64 v m == 0) = pairB f v m) := (by unfold pairB; rw [hx, Bool.true_and]; exact Bv.andNot_zero v m hv.1 hv.2 hm.1 (by omega) : (bits .andNot .i64 v m == 0) = pairB f v m)
    rw [hx] at hf
    clear hv hm
    go_enter Try.func125, Try.ntmps125
    go_wp2_with (go_at_call 149; refine hf.mono ?_; rintro e w' ⟨rfl, hw'⟩; replace hw' := hw'.symm; subst hw')
    go_ret
    exact ⟨Num.ret_bool HB.out, below_alloc1 _ _⟩

/-- The first eight as a list. -/
def lst (v : Nat → Int) : List Int := (List.range 8).map v
theorem lst_len (v : Nat → Int) : (lst v).length = 8 := by simp [lst]
theorem lst_at (v : Nat → Int) {i : Nat} (h : i < 8) : (lst v).getD i 0 = v i := by simp [lst, List.getD, h]

/-- A match in memory of the call's own. -/
def ResM (w : World) (V M : List Int) (e : Ending) (w' : World) : Prop :=
  ∃ aV gV cV aM gM cM, e = .returned (.agg #[.slice aV V.length cV, .slice aM M.length cM]) ∧ Wt w' aV gV V ∧ Wt w' aM gM M ∧ w.heap.size ≤ gV ∧ w.heap.size ≤ gM ∧ gV ≠ gM ∧ Below w.heap.size w w'
def ResMB (w : World) (ok : Bool) (V M : List Int) (e : Ending) (w' : World) : Prop :=
  ∃ aV gV cV aM gM cM, e = .returned (.tuple #[.agg #[.slice aV V.length cV, .slice aM M.length cM], .bool ok]) ∧ Wt w' aV gV V ∧ Wt w' aM gM M ∧ w.heap.size ≤ gV ∧ w.heap.size ≤ gM ∧ gV ≠ gM ∧ Below w.heap.size w w'

theorem blk_set {w : World} {g : Nat} {a : Addr} {x : Value} {o : Option Obj} (h : w.heap[g]? = o) (hne : g ≠ a.block) : (w.setCell a x).heap[g]? = o := (Below.heap_setCell w a x g hne).trans h
theorem bset {B g k : Nat} {w0 w : World} {x : Value} (h : Below B w0 w) (hg : B ≤ g) : Below B w0 (w.setCell ⟨g, k, none⟩ x) := h.setCell hg _
/-- The row g under way. -/
def Half (w : World) (g k : Nat) (v : Nat → Int) : Prop := w.rowIs g 3 8 (fun i => .int .i64 (cut v nul k i))
theorem Half.step {w : World} {g k : Nat} {v : Nat → Int} (h : Half w g k v) : Half (w.setCell ⟨g, k, none⟩ (.int .i64 (v k))) g (k + 1) v := by
  refine (World.rowIs.set h k _).congr fun i hi => ?_
  unfold cut
  by_cases e : i = k
  · subst e; simp
  · have : (i < k + 1) = (i < k) := by rw [eq_iff_iff]; omega
    simp [e, this]
theorem Half.other {w : World} {g k : Nat} {v : Nat → Int} (h : Half w g k v) {a : Addr} (hne : g ≠ a.block) (x : Value) : Half (w.setCell a x) g k v := World.rowIs.setOther h hne x
theorem Half.mine {w : World} {g : Nat} {v : Nat → Int} (h : Half w g 8 v) : Mine w g (lst v) := by
  refine ⟨?_, by rw [lst_len]; omega⟩
  rw [lst_len]
  exact World.rowIs.congr h (fun i hi => by rw [lst_at v hi]; simp [cut, hi])

theorem Half.made {w : World} {g : Nat} (v : Nat → Int) (hg : g = w.heap.size) : Half (w.alloc (.cells (madeCells #[.int .i64 0] 8) 3)) g 0 v := by
  subst hg
  exact World.rowIs.congr (World.rowIs_made w (.int .i64 0) 8 3) (fun i _ => by simp [cut, nul])
theorem Half.old {w : World} {g k : Nat} {v : Nat → Int} {o : Obj} (h : Half w g k v) : Half (w.alloc o) g k v := World.rowIs.alloc h o
theorem Half.drew {w : World} {g k : Nat} {v : Nat → Int} (h : Half w g k v) : Half w.drew g k v := h
theorem Half.lt {w : World} {g k : Nat} {v : Nat → Int} (h : Half w g k v) : g < w.heap.size := World.rowIs.lt h
theorem Half.below {w w' : World} {g k : Nat} {v : Nat → Int} (h : Half w g k v) (hb : Below w.heap.size w w') : Half w' g k v := World.rowIs.of_block h (hb.block g h.lt)

set_option maxHeartbeats 2000000 in
theorem match_any (v m : Nat → Int) (w : World) : Calls Try.prog 70 #[.agg (enc v m)] w (ResM w (lst v) (lst m)) := by
  have hmk : ∀ w : World, (Instr.makeSlice 23 (.int .i64 8) (.int .i64 8)).run Try.prog w = .ok (.slice (some ⟨w.heap.size, 0, none⟩) 8 8) (w.alloc (.cells (madeCells #[.int .i64 0] 8) 3)) :=
    run_make_row' (P := Try.prog) 23 3 (.int .i64 0) 8 Try.underlying23 info3 rfl .i64 .i64 8 (by omega) (by omega)
  obtain ⟨W0, hW0⟩ : ∃ W0, W0 = (w.alloc (.cells (enc v m) 97)).alloc (.cells #[.slice none 0 0, .slice none 0 0] 25) := ⟨_, rfl⟩
  have B0 : Below w.heap.size w W0 := by subst hW0; exact Rw.next (below_alloc1 _ _) (below_alloc1 _ _)
  have z0 : W0.heap.size = w.heap.size + 2 := by subst hW0; simp
  have hE : Has W0 w.heap.size v m := by subst hW0; exact has_old (has_new rfl)
  have kR : W0.heap[w.heap.size + 1]? = some (.cells #[.slice none 0 0, .slice none 0 0] 25 (0, 0)) := by subst hW0; exact at_new (by simp)
  have HZ : Hid (W0.heap.size = w.heap.size + 2) := z0
  clear z0
  go_enter Try.func70, Try.ntmps70
  go_wp2
  rw [← hW0]
  clear hW0
  go_cut [3] from 4 (fun s3 wx => ∃ (X gV gM : Nat), s3 = .pointer (some ⟨X, 0, none⟩) ∧ wx.heap[X]? = some (.cells #[.slice (some ⟨gV, 0, none⟩) 8 8, .slice (some ⟨gM, 0, none⟩) 8 8] 25 (0, 0)) ∧ Half wx gV 0 v ∧ Half wx gM 0 m ∧ gV ≠ gM ∧ X ≠ gV ∧ X ≠ gM ∧ W0.heap.size ≤ X ∧ W0.heap.size ≤ gV ∧ W0.heap.size ≤ gM ∧ Below W0.heap.size W0 wx)
  case first =>
    go_region
    all_goals go_wp2
    all_goals
      go_meet
      exact ⟨_, _, _, rfl,
        by rw [heap_drew]; first | (refine at_new ?_; (simp; done)) | (refine (at_old ?_).trans (at_new ?_) <;> (simp; done)) | exact (at_old (by simp; omega)).trans ((at_old (by simp)).trans (at_new rfl)),
        by refine Half.drew ?_; first | (refine Half.made v ?_; (simp; done)) | (refine Half.old (Half.made v ?_); (simp; done)) | (refine Half.old (Half.old (Half.made v ?_)); rfl),
        by refine Half.drew ?_; first | (refine Half.made m ?_; (simp; done)) | (refine Half.old (Half.made m ?_); (simp; done)) | (refine Half.old (Half.old (Half.made m ?_)); rfl),
        by omega, by omega, by omega, by omega, by omega, by omega, (Rw.next (Rw.next (below_alloc1 _ _) (below_alloc1 _ _)) (below_alloc1 _ _)).drew⟩
  case rest =>
    obtain ⟨X, gV, gM, rfl, kX, hV, hM, n1, n2, n3, b1, b2, b3, hB⟩ := hcut
    have hE1 := hE.below hB
    have kR1 := (hB.block _ (Nat.lt_of_lt_of_eq (Nat.lt_succ_self _) HZ.out.symm)).trans kR
    have n4 : X ≠ w.heap.size + 1 := fun e => by have := HZ.out; omega
    have n5 : gV ≠ w.heap.size + 1 := fun e => by have := HZ.out; omega
    have n6 : gM ≠ w.heap.size + 1 := fun e => by have := HZ.out; omega
    have c1 : w.heap.size ≤ gV := by have := HZ.out; omega
    have c2 : w.heap.size ≤ gM := by have := HZ.out; omega
    have c3 : w.heap.size ≤ W0.heap.size := B0.size
    have HB : Hid (Below w.heap.size w wc) := Rw.next B0 hB
    clear hE kR hmk
    go_wp2_with (refine load66 rfl _ rfl rfl hE1 ?_)
    clear hE1
    go_loopw [10] (fun i wr => ∃ k : Nat, k ≤ 8 ∧ i = .int .i64 k ∧ Below w.heap.size w wr ∧ wr.heap[X]? = some (.cells #[.slice (some ⟨gV, 0, none⟩) 8 8, .slice (some ⟨gM, 0, none⟩) 8 8] 25 (0, 0)) ∧ wr.heap[w.heap.size + 1]? = some (.cells #[.slice none 0 0, .slice none 0 0] 25 (0, 0)) ∧ Half wr gV k v ∧ Half wr gM k m) (fun i _ => 8 - (intOf i).toNat)
    case atStart => exact ⟨0, Nat.zero_le _, rfl, HB.out, kX, kR1, hV, hM⟩
    case round =>
      obtain ⟨k, hk, rfl, hbel, qX, qR, hv, hm⟩ := hrel
      clear kX kR1 hV hM HB hB
      have l1 := (Array.getElem?_eq_some_iff.1 qX).1
      have l2 := (Array.getElem?_eq_some_iff.1 qR).1
      have l3 := hv.lt
      have l4 := hm.lt
      obtain ⟨x0, x1⟩ := two qX
      by_cases hlt : k < 8
      · have hkz : (k : Int) < 8 := by omega
        have hix := fun w => index_any (v := v) (m := m) hlt w
        have q0 := World.rowIs.cell hv hlt
        have q1 := World.rowIs.cell hm hlt
        have f0 := World.rowIs.frozen hv k
        have f1 := World.rowIs.frozen hm k
        have HV : Hid (Half wr gV k v) := hv
        have HM : Hid (Half wr gM k m) := hm
        have HX : Hid (wr.heap[X]? = some (.cells #[.slice (some ⟨gV, 0, none⟩) 8 8, .slice (some ⟨gM, 0, none⟩) 8 8] 25 (0, 0))) := qX
        have HR : Hid (wr.heap[w.heap.size + 1]? = some (.cells #[.slice none 0 0, .slice none 0 0] 25 (0, 0))) := qR
        clear hv hm qX qR
        go_wp2
        go_roundw
        case rel => exact ⟨k + 1, by omega, by go_num, (bset (bset hbel c1) c2).alloc (by simp; omega) _, (at_old (by simpa using l1)).trans (blk_set (blk_set HX.out n2) n3), (at_old (by simpa using l2)).trans (blk_set (blk_set HR.out (Ne.symm n5)) (Ne.symm n6)), (HV.out.step.other n1 _).old, ((HM.out.other (Ne.symm n1) _).step).old⟩
        case measure => simp [intOf]; omega
      · have he : k = 8 := by omega
        subst he
        obtain ⟨r0, r1⟩ := two qR
        have fr := Bl.free qR
        go_wp2
        refine bodyPost_ret (v := .agg #[.slice (some ⟨gV, 0, none⟩) 8 8, .slice (some ⟨gM, 0, none⟩) 8 8]) (by simp [results, Try.results70, go_sem, r0, r1]) rfl ⟨_, gV, _, _, gM, _, by rw [lst_len, lst_len], ?_, ?_, c1, c2, n1, ?_⟩
        · exact mine_wt (((hv.other n5 _).other n5 _).mine)
        · exact mine_wt (((hm.other n6 _).other n6 _).mine)
        · exact bset (bset hbel (Nat.le_succ _)) (Nat.le_succ _)
end Go.Proofs.Ytcbgnfjnjfaacaa.Pm
