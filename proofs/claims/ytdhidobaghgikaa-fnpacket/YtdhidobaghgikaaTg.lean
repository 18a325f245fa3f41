/-
  Contracts of the two Tagged: what they answer, on every packet and every tag.
-/
import Derived.Test.YtdhidobaghgikaaApp
import Derived.Test.YtdhidobaghgikaaPf
namespace Go.Proofs.Ytdhidobaghgikaa.Tg
open Go Go.RowKit
open Num Rw Mk Un Put Pl App Pf

/-- A packet's cells. -/
theorem wt_set {w : World} {a : Option Addr} {g : Nat} {l : List Int} {ad : Addr} {u : Value} (h : Wt w a g l) (hne : ¬ ad.block = g) : Wt (w.setCell ad u) a g l :=
  ⟨h.head, fun i hi => (World.cell?_setCell_other _ _ _ _ (by intro q; apply hne; rw [q])).trans (h.cell i hi), fun i hi => by simpa using h.free i hi, h.size, h.byt⟩

/-- What 'Tagged' answers. -/
def Yes (w : World) (d s t y : Int) (l : List Int) (e : Ending) (w' : World) : Prop :=
  ∃ a g cap, e = .returned (.tuple #[.agg #[.int .i64 d, .int .i64 s, .int .i64 t, .int .i64 y, .slice a l.length cap], .bool true]) ∧ Wt w' a g l ∧ w.heap.size ≤ g ∧ (a = none → cap = 0) ∧ Below w.heap.size w w'
def No (w : World) (e : Ending) (w' : World) : Prop :=
  e = .returned (.tuple #[.agg #[.int .i64 0, .int .i64 0, .int .i64 0, .int .i64 0, .slice none 0 0], .bool false]) ∧ Below w.heap.size w w'

set_option maxHeartbeats 1000000 in
theorem implTagged_no (d s t y tag : Int) (a : Option Addr) (n c : Nat) (w : World) (hok : Pk.okB d s tag y n = false) :
    Calls Try.prog 12 #[.agg #[.int .i64 d, .int .i64 s, .int .i64 t, .int .i64 y, .slice a n c], .int .i64 tag] w (No w) := by
  obtain ⟨W0, hW0⟩ : ∃ W0, W0 = (w.alloc (.cells #[.int .i64 d, .int .i64 s, .int .i64 tag, .int .i64 y, .slice a n c] 24)).alloc (.cells #[.int .i64 0, .int .i64 0, .int .i64 0, .int .i64 0, .slice none 0 0] 24) := ⟨_, rfl⟩
  have B0 : Below w.heap.size w W0 := by subst hW0; exact next (below_alloc1 _ _) (below_alloc1 _ _)
  have z0 : W0.heap.size = w.heap.size + 2 := by subst hW0; simp
  have k1 : W0.heap[w.heap.size + 1]? = some (.cells #[.int .i64 0, .int .i64 0, .int .i64 0, .int .i64 0, .slice none 0 0] 24 (0, 0)) := by subst hW0; rw [at_new (by simp)]
  go_enter Try.func12, Try.ntmps12
  go_wp2_with (go_at_call 16; rw [← hW0]; refine (Pk.implOk_any _ _ _ _ _ _ _ _).mono ?_; rw [hok]; rintro e wa ⟨rfl, hba⟩; replace k1 := (hba.block _ (by omega)).trans k1; obtain ⟨c0, c1, c2, c3, c4⟩ := five k1; have f1 := Bl.free k1)
  refine bodyPost_ret (v := .tuple #[.agg #[.int .i64 0, .int .i64 0, .int .i64 0, .int .i64 0, .slice none 0 0], .bool false]) (by simp [results, Try.results12, go_sem, c0, c1, c2, c3, c4]) rfl ⟨rfl, ?_⟩
  exact ((((((next B0 hba).setCell (by simp) _).setCell (by simp) _).setCell (by simp) _).setCell (by simp) _).setCell (by simp) _)

set_option maxHeartbeats 1000000 in
theorem implTagged_yes (d s t y tag : Int) (a : Option Addr) (b off cap : Nat) (l : List Int) (w : World) (h : Rd w a b off l) (hcap : a = none → cap = 0) (hok : Pk.okB d s tag y l.length = true) :
    Calls Try.prog 12 #[.agg #[.int .i64 d, .int .i64 s, .int .i64 t, .int .i64 y, .slice a l.length cap], .int .i64 tag] w (Yes w d s tag y l) := by
  obtain ⟨W0, hW0⟩ : ∃ W0, W0 = (w.alloc (.cells #[.int .i64 d, .int .i64 s, .int .i64 tag, .int .i64 y, .slice a l.length cap] 24)).alloc (.cells #[.int .i64 0, .int .i64 0, .int .i64 0, .int .i64 0, .slice none 0 0] 24) := ⟨_, rfl⟩
  have B0 : Below w.heap.size w W0 := by subst hW0; exact next (below_alloc1 _ _) (below_alloc1 _ _)
  have z0 : W0.heap.size = w.heap.size + 2 := by subst hW0; simp
  have k0 : W0.heap[w.heap.size]? = some (.cells #[.int .i64 d, .int .i64 s, .int .i64 tag, .int .i64 y, .slice a l.length cap] 24 (0, 0)) := by subst hW0; rw [at_old (by simp), at_new (by simp)]
  have k1 : W0.heap[w.heap.size + 1]? = some (.cells #[.int .i64 0, .int .i64 0, .int .i64 0, .int .i64 0, .slice none 0 0] 24 (0, 0)) := by subst hW0; rw [at_new (by simp)]
  replace h := h.below B0
  go_enter Try.func12, Try.ntmps12
  go_wp2_with (go_at_call 16; rw [← hW0]; refine (Pk.implOk_any _ _ _ _ _ _ _ _).mono ?_; rw [hok]; rintro e wa ⟨rfl, hba⟩; replace k1 := (hba.block _ (by omega)).trans k1; replace k0 := (hba.block _ (by omega)).trans k0; replace h := h.below hba; obtain ⟨c0, c1, c2, c3, c4⟩ := five k0)
  clear c0 c1 c2 c3 c4
  have za := hba.size
  go_wp2_with (go_at_call 35; refine (clone_any _ _ _ _ _ _ h hcap).mono ?_; rintro e wb ⟨a', g, cap', rfl, hwt, hg, hcap', hbb⟩; replace k1 := (hbb.block _ (by omega)).trans k1; replace k0 := (hbb.block _ (by omega)).trans k0; obtain ⟨c0, c1, c2, c3, c4⟩ := five k0; obtain ⟨x0, x1, x2, x3, x4⟩ := five k1; have f0 := Bl.free k0; have f1 := Bl.free k1)
  refine bodyPost_ret (v := .tuple #[.agg #[.int .i64 d, .int .i64 s, .int .i64 tag, .int .i64 y, .slice a' l.length cap'], .bool true]) (by simp [results, Try.results12, go_sem, x0, x1, x2, x3, x4]) rfl ⟨_, g, _, rfl, ?_, by omega, hcap', ?_⟩
  · exact wt_set (wt_set (wt_set (wt_set (wt_set (wt_set hwt (by simp; omega)) (by simp; omega)) (by simp; omega)) (by simp; omega)) (by simp; omega)) (by simp; omega)
  · exact (((((((next (next B0 hba) hbb).setCell (by simp) _).setCell (by simp) _).setCell (by simp) _).setCell (by simp) _).setCell (by simp) _).setCell (by simp) _)

set_option maxHeartbeats 1000000 in
theorem specTagged_no (d s t y tag : Int) (a : Option Addr) (n c : Nat) (w : World) (hok : Pk.okB d s tag y n = false) :
    Calls Try.prog 13 #[.agg #[.int .i64 d, .int .i64 s, .int .i64 t, .int .i64 y, .slice a n c], .int .i64 tag] w (No w) := by
  obtain ⟨W0, hW0⟩ : ∃ W0, W0 = (w.alloc (.cells #[.int .i64 d, .int .i64 s, .int .i64 tag, .int .i64 y, .slice a n c] 24)).alloc (.cells #[.int .i64 0, .int .i64 0, .int .i64 0, .int .i64 0, .slice none 0 0] 24) := ⟨_, rfl⟩
  have B0 : Below w.heap.size w W0 := by subst hW0; exact next (below_alloc1 _ _) (below_alloc1 _ _)
  have z0 : W0.heap.size = w.heap.size + 2 := by subst hW0; simp
  have k1 : W0.heap[w.heap.size + 1]? = some (.cells #[.int .i64 0, .int .i64 0, .int .i64 0, .int .i64 0, .slice none 0 0] 24 (0, 0)) := by subst hW0; rw [at_new (by simp)]
  go_enter Try.func13, Try.ntmps13
  go_wp2_with (go_at_call 10; rw [← hW0]; refine (Pk.specOk_any _ _ _ _ _ _ _ _).mono ?_; rw [hok]; rintro e wa ⟨rfl, hba⟩; replace k1 := (hba.block _ (by omega)).trans k1; obtain ⟨c0, c1, c2, c3, c4⟩ := five k1; have f1 := Bl.free k1)
  refine bodyPost_ret (v := .tuple #[.agg #[.int .i64 0, .int .i64 0, .int .i64 0, .int .i64 0, .slice none 0 0], .bool false]) (by simp [results, Try.results13, go_sem, c0, c1, c2, c3, c4]) rfl ⟨rfl, ?_⟩
  exact ((((((next B0 hba).setCell (by simp) _).setCell (by simp) _).setCell (by simp) _).setCell (by simp) _).setCell (by simp) _)

set_option maxHeartbeats 1000000 in
theorem specTagged_yes (d s t y tag : Int) (a : Option Addr) (b off cap : Nat) (l : List Int) (w : World) (h : Rd w a b off l) (hok : Pk.okB d s tag y l.length = true) :
    Calls Try.prog 13 #[.agg #[.int .i64 d, .int .i64 s, .int .i64 t, .int .i64 y, .slice a l.length cap], .int .i64 tag] w (Yes w d s tag y l) := by
  obtain ⟨W0, hW0⟩ : ∃ W0, W0 = (w.alloc (.cells #[.int .i64 d, .int .i64 s, .int .i64 tag, .int .i64 y, .slice a l.length cap] 24)).alloc (.cells #[.int .i64 0, .int .i64 0, .int .i64 0, .int .i64 0, .slice none 0 0] 24) := ⟨_, rfl⟩
  have B0 : Below w.heap.size w W0 := by subst hW0; exact next (below_alloc1 _ _) (below_alloc1 _ _)
  have z0 : W0.heap.size = w.heap.size + 2 := by subst hW0; simp
  have k0 : W0.heap[w.heap.size]? = some (.cells #[.int .i64 d, .int .i64 s, .int .i64 tag, .int .i64 y, .slice a l.length cap] 24 (0, 0)) := by subst hW0; rw [at_old (by simp), at_new (by simp)]
  have k1 : W0.heap[w.heap.size + 1]? = some (.cells #[.int .i64 0, .int .i64 0, .int .i64 0, .int .i64 0, .slice none 0 0] 24 (0, 0)) := by subst hW0; rw [at_new (by simp)]
  replace h := h.below B0
  go_enter Try.func13, Try.ntmps13
  go_wp2_with (first | (go_at_call 10; rw [← hW0]; refine (Pk.specOk_any _ _ _ _ _ _ _ _).mono ?_; rw [hok]; rintro e wa ⟨rfl, hba⟩; replace k1 := (hba.block _ (by omega)).trans k1; replace k0 := (hba.block _ (by omega)).trans k0; replace h := h.below hba; have za := hba.size; have BE := below_alloc1 wa (.cells #[] 5); have O0 := own_empty wa; have hs := h.size; have hy := h.byt; replace h := h.below BE; obtain ⟨c0, c1, c2, c3, c4⟩ := five ((BE.block _ (by omega)).trans k0)) | (at_builtin; refine wpList_app rfl (.tmp 12) (.tmp 14) rfl wa.heap.size _ [] l rfl O0 a b off cap rfl h (by simp; omega) (by simp) ?_; intro v' wb hown hgrow; obtain ⟨g, cap', hv, hg, hwt⟩ := hasI_form hown (by simpa using hs) (by simpa using hy); have hbb := below_own O0 BE (Nat.le_refl _) hgrow; subst hv; simp only [List.nil_append] at hwt; replace k1 := (hbb.block _ (by omega)).trans k1; replace k0 := (hbb.block _ (by omega)).trans k0; clear c0 c1 c2 c3 c4; obtain ⟨c0, c1, c2, c3, c4⟩ := five k0; obtain ⟨x0, x1, x2, x3, x4⟩ := five k1; have f0 := Bl.free k0; have f1 := Bl.free k1))
  refine bodyPost_ret (v := .tuple #[.agg #[.int .i64 d, .int .i64 s, .int .i64 tag, .int .i64 y, .slice (some ⟨g, 0, none⟩) l.length cap'], .bool true]) (by simp [results, Try.results13, go_sem, x0, x1, x2, x3, x4]) rfl ⟨_, g, _, rfl, ?_, by omega, fun h => by simp at h, ?_⟩
  · exact wt_set (wt_set (wt_set (wt_set (wt_set (wt_set hwt (by simp; omega)) (by simp; omega)) (by simp; omega)) (by simp; omega)) (by simp; omega)) (by simp; omega)
  · exact (((((((next (next B0 hba) hbb).setCell (by simp) _).setCell (by simp) _).setCell (by simp) _).setCell (by simp) _).setCell (by simp) _).setCell (by simp) _)

end Go.Proofs.Ytdhidobaghgikaa.Tg
