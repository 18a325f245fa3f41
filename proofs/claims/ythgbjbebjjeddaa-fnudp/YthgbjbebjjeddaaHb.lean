/-
  The contract of headBy: a head in new memory, with the number that the closure tells for each field.
-/
import Derived.Test.YthgbjbebjjeddaaHg
namespace Go.Proofs.Ythgbjbebjjeddaa.Hb
open Go Go.RowKit
open Num Pl Hr Hh Hf Hg

/-- What headBy hands back. -/
def Made (w : World) (L : List Int) (e : Ending) (w' : World) : Prop :=
  ∃ g, e = .returned (.agg #[.slice (some ⟨g, 0, none⟩) 8 8]) ∧ Mine w' g L ∧ w.heap.size ≤ g ∧ Below w.heap.size w w'
/-- What the closure tells. -/
def Tells (c : Nat) (p1 p2 p3 : Value) (L : List Int) (w : World) : Prop :=
  ∀ k : Nat, k < 8 → ∀ w', Below w.heap.size w w' → Calls Try.prog c #[.int .i64 k, p1, p2, p3] w' fun e w'' => e = .returned (.int .i64 (L.getD k 0)) ∧ w'' = w'

set_option maxHeartbeats 1000000 in
theorem by58 (p1 p2 p3 : Value) (L : List Int) (hL : L.length = 8) (w : World) (H : Tells 58 p1 p2 p3 L w) :
    Calls Try.prog 57 #[.func (.func 58) #[] #[p1, p2, p3]] w (Made w L) := by
  have B0 := Rw.next (below_alloc1 w (.cells #[.slice none 0 0] 43)) (below_alloc1 _ (.cells (madeCells #[.int .i64 0] 8) 3))
  have k0 : ((w.alloc (.cells #[.slice none 0 0] 43)).alloc (.cells (madeCells #[.int .i64 0] 8) 3)).heap[w.heap.size]? = some (.cells #[.slice none 0 0] 43 (0, 0)) := by rw [at_old (by simp), at_new rfl]
  have r0 := World.rowIs_made (w.alloc (.cells #[.slice none 0 0] 43)) (.int .i64 0) 8 3
  have hmk := run_make_row' (P := Try.prog) 41 3 (.int .i64 0) 8 Try.underlying41 info3 rfl .i64 .i64 8 (by omega) (by omega)
  have e8 : ((8 : Nat) : Int) = 8 := rfl
  rw [e8] at hmk
  have HH : Hid (Tells 58 p1 p2 p3 L w) := H
  have HL : Hid (L.length = 8) := hL
  clear H hL
  go_enter Try.func57, Try.ntmps57
  go_wp2
  clear hmk
  go_loopw [8, 4] (fun i _ wr => ∃ k : Nat, k ≤ 8 ∧ i = .int .i64 k ∧ Below w.heap.size w wr ∧ wr.heap[w.heap.size]? = some (.cells #[.slice none 0 0] 43 (0, 0)) ∧ wr.rowIs (w.heap.size + 1) 3 8 (Hr.part L k)) (fun i _ _ => 8 - (intOf i).toNat)
  case atStart => exact ⟨0, Nat.zero_le _, rfl, B0, k0, by simpa using r0.congr (fun i _ => by simp [Hr.part])⟩
  case round =>
    obtain ⟨k, hk, rfl, hbel, kr, hrow⟩ := hrel
    clear B0 k0 r0
    by_cases hlt : k < 8
    · have hkz : (k : Int) < 8 := by omega
      have hcall := HH.out k hlt wr hbel
      have g1 : wr.cell? ⟨w.heap.size + 1, k, none⟩ = some (Hr.part L k k) := hrow.cell hlt
      have g2 : wr.frozen? ⟨w.heap.size + 1, k, none⟩ = false := hrow.frozen k
      clear HH
      go_wp2_with (go_at_call 58; refine hcall.mono ?_; rintro e w' ⟨rfl, hw'⟩; replace hw' := hw'.symm; subst hw')
      go_roundw
      case rel => exact ⟨k + 1, by omega, by go_num, hbel.setCell (by simp) _, (Below.heap_setCell _ _ _ _ (by simp)).trans kr, by have := HL.out; rw [← this] at hrow ⊢; exact Hr.part_step hrow⟩
      case measure => simp [intOf]; omega
    · have he : k = 8 := by omega
      subst he
      clear HH hlt
      have c0 := one kr
      have f0 := Bl.free kr
      go_wp2
      refine bodyPost_ret (v := .agg #[.slice (some ⟨w.heap.size + 1, 0, none⟩) 8 8]) (by simp [results, Try.results57, go_sem, c0]) rfl ⟨_, rfl, ?_, by omega, ?_⟩
      · have hm : Mine wr (w.heap.size + 1) L := ⟨by rw [HL.out]; exact hrow.congr (fun i hi => by simp [Hr.part, hi]), by rw [HL.out]; decide⟩
        exact hm.set (by simp)
      · exact hbel.setCell (by simp) _

set_option maxHeartbeats 1000000 in
theorem by74 (p1 p2 p3 : Value) (L : List Int) (hL : L.length = 8) (w : World) (H : Tells 74 p1 p2 p3 L w) :
    Calls Try.prog 57 #[.func (.func 74) #[] #[p1, p2, p3]] w (Made w L) := by
  have B0 := Rw.next (below_alloc1 w (.cells #[.slice none 0 0] 43)) (below_alloc1 _ (.cells (madeCells #[.int .i64 0] 8) 3))
  have k0 : ((w.alloc (.cells #[.slice none 0 0] 43)).alloc (.cells (madeCells #[.int .i64 0] 8) 3)).heap[w.heap.size]? = some (.cells #[.slice none 0 0] 43 (0, 0)) := by rw [at_old (by simp), at_new rfl]
  have r0 := World.rowIs_made (w.alloc (.cells #[.slice none 0 0] 43)) (.int .i64 0) 8 3
  have hmk := run_make_row' (P := Try.prog) 41 3 (.int .i64 0) 8 Try.underlying41 info3 rfl .i64 .i64 8 (by omega) (by omega)
  have e8 : ((8 : Nat) : Int) = 8 := rfl
  rw [e8] at hmk
  have HH : Hid (Tells 74 p1 p2 p3 L w) := H
  have HL : Hid (L.length = 8) := hL
  clear H hL
  go_enter Try.func57, Try.ntmps57
  go_wp2
  clear hmk
  go_loopw [8, 4] (fun i _ wr => ∃ k : Nat, k ≤ 8 ∧ i = .int .i64 k ∧ Below w.heap.size w wr ∧ wr.heap[w.heap.size]? = some (.cells #[.slice none 0 0] 43 (0, 0)) ∧ wr.rowIs (w.heap.size + 1) 3 8 (Hr.part L k)) (fun i _ _ => 8 - (intOf i).toNat)
  case atStart => exact ⟨0, Nat.zero_le _, rfl, B0, k0, by simpa using r0.congr (fun i _ => by simp [Hr.part])⟩
  case round =>
    obtain ⟨k, hk, rfl, hbel, kr, hrow⟩ := hrel
    clear B0 k0 r0
    by_cases hlt : k < 8
    · have hkz : (k : Int) < 8 := by omega
      have hcall := HH.out k hlt wr hbel
      have g1 : wr.cell? ⟨w.heap.size + 1, k, none⟩ = some (Hr.part L k k) := hrow.cell hlt
      have g2 : wr.frozen? ⟨w.heap.size + 1, k, none⟩ = false := hrow.frozen k
      clear HH
      go_wp2_with (go_at_call 74; refine hcall.mono ?_; rintro e w' ⟨rfl, hw'⟩; replace hw' := hw'.symm; subst hw')
      go_roundw
      case rel => exact ⟨k + 1, by omega, by go_num, hbel.setCell (by simp) _, (Below.heap_setCell _ _ _ _ (by simp)).trans kr, by have := HL.out; rw [← this] at hrow ⊢; exact Hr.part_step hrow⟩
      case measure => simp [intOf]; omega
    · have he : k = 8 := by omega
      subst he
      clear HH hlt
      have c0 := one kr
      have f0 := Bl.free kr
      go_wp2
      refine bodyPost_ret (v := .agg #[.slice (some ⟨w.heap.size + 1, 0, none⟩) 8 8]) (by simp [results, Try.results57, go_sem, c0]) rfl ⟨_, rfl, ?_, by omega, ?_⟩
      · have hm : Mine wr (w.heap.size + 1) L := ⟨by rw [HL.out]; exact hrow.congr (fun i hi => by simp [Hr.part, hi]), by rw [HL.out]; decide⟩
        exact hm.set (by simp)
      · exact hbel.setCell (by simp) _

set_option maxHeartbeats 1000000 in
theorem by75 (p1 p2 p3 : Value) (L : List Int) (hL : L.length = 8) (w : World) (H : Tells 75 p1 p2 p3 L w) :
    Calls Try.prog 57 #[.func (.func 75) #[] #[p1, p2, p3]] w (Made w L) := by
  have B0 := Rw.next (below_alloc1 w (.cells #[.slice none 0 0] 43)) (below_alloc1 _ (.cells (madeCells #[.int .i64 0] 8) 3))
  have k0 : ((w.alloc (.cells #[.slice none 0 0] 43)).alloc (.cells (madeCells #[.int .i64 0] 8) 3)).heap[w.heap.size]? = some (.cells #[.slice none 0 0] 43 (0, 0)) := by rw [at_old (by simp), at_new rfl]
  have r0 := World.rowIs_made (w.alloc (.cells #[.slice none 0 0] 43)) (.int .i64 0) 8 3
  have hmk := run_make_row' (P := Try.prog) 41 3 (.int .i64 0) 8 Try.underlying41 info3 rfl .i64 .i64 8 (by omega) (by omega)
  have e8 : ((8 : Nat) : Int) = 8 := rfl
  rw [e8] at hmk
  have HH : Hid (Tells 75 p1 p2 p3 L w) := H
  have HL : Hid (L.length = 8) := hL
  clear H hL
  go_enter Try.func57, Try.ntmps57
  go_wp2
  clear hmk
  go_loopw [8, 4] (fun i _ wr => ∃ k : Nat, k ≤ 8 ∧ i = .int .i64 k ∧ Below w.heap.size w wr ∧ wr.heap[w.heap.size]? = some (.cells #[.slice none 0 0] 43 (0, 0)) ∧ wr.rowIs (w.heap.size + 1) 3 8 (Hr.part L k)) (fun i _ _ => 8 - (intOf i).toNat)
  case atStart => exact ⟨0, Nat.zero_le _, rfl, B0, k0, by simpa using r0.congr (fun i _ => by simp [Hr.part])⟩
  case round =>
    obtain ⟨k, hk, rfl, hbel, kr, hrow⟩ := hrel
    clear B0 k0 r0
    by_cases hlt : k < 8
    · have hkz : (k : Int) < 8 := by omega
      have hcall := HH.out k hlt wr hbel
      have g1 : wr.cell? ⟨w.heap.size + 1, k, none⟩ = some (Hr.part L k k) := hrow.cell hlt
      have g2 : wr.frozen? ⟨w.heap.size + 1, k, none⟩ = false := hrow.frozen k
      clear HH
      go_wp2_with (go_at_call 75; refine hcall.mono ?_; rintro e w' ⟨rfl, hw'⟩; replace hw' := hw'.symm; subst hw')
      go_roundw
      case rel => exact ⟨k + 1, by omega, by go_num, hbel.setCell (by simp) _, (Below.heap_setCell _ _ _ _ (by simp)).trans kr, by have := HL.out; rw [← this] at hrow ⊢; exact Hr.part_step hrow⟩
      case measure => simp [intOf]; omega
    · have he : k = 8 := by omega
      subst he
      clear HH hlt
      have c0 := one kr
      have f0 := Bl.free kr
      go_wp2
      refine bodyPost_ret (v := .agg #[.slice (some ⟨w.heap.size + 1, 0, none⟩) 8 8]) (by simp [results, Try.results57, go_sem, c0]) rfl ⟨_, rfl, ?_, by omega, ?_⟩
      · have hm : Mine wr (w.heap.size + 1) L := ⟨by rw [HL.out]; exact hrow.congr (fun i hi => by simp [Hr.part, hi]), by rw [HL.out]; decide⟩
        exact hm.set (by simp)
      · exact hbel.setCell (by simp) _

end Go.Proofs.Ythgbjbebjjeddaa.Hb
