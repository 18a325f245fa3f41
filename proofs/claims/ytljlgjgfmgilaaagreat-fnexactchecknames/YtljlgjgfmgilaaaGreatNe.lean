/-
  The specification's lookups: how many terms a name has, whether it moves.
-/
import Derived.Test.YtljlgjgfmgilaaaGreatNd
namespace Go.Proofs.YtljlgjgfmgilaaaGreat.Nq
set_option maxRecDepth 8000
set_option linter.unusedSimpArgs false
set_option linter.unusedVariables false
open Go Go.ChangeShapes Go.WideShapes Go.RowKit
open Num Pl Pm

theorem lit_t {s : ByteArray} {l : List UInt8} (h : s = ⟨l.toArray⟩) : (s.toList == l) = true := by rw [h, Go.Lib.toList_data]; simp
theorem lit_f {s : ByteArray} {l : List UInt8} (h : s ≠ ⟨l.toArray⟩) : (s.toList == l) = false := by
  cases e : (s.toList == l) with
  | false => rfl
  | true =>
    refine absurd (toList_inj ?_) h
    rw [Go.Lib.toList_data (⟨l.toArray⟩ : ByteArray)]
    simpa using e
theorem pk_t {s : ByteArray} (h : s = pk) : (s.toList == [112, 97, 99, 107, 101, 116]) = true := lit_t h
theorem pk_f {s : ByteArray} (h : ¬ s = pk) : (s.toList == [112, 97, 99, 107, 101, 116]) = false := lit_f h
theorem fw_t {s : ByteArray} (h : s = fw) : (s.toList == [102, 111, 114, 119, 97, 114, 100]) = true := lit_t h
theorem fw_f {s : ByteArray} (h : ¬ s = fw) : (s.toList == [102, 111, 114, 119, 97, 114, 100]) = false := lit_f h
theorem ret_int {a b : Int} (h : a = b) : Ending.returned (.int .i64 a) = .returned (.int .i64 b) := by rw [h]

set_option maxHeartbeats 4000000 in
theorem arityS_any (x : Pg) (s : ByteArray) (w : World) (hx : Rd kdDc 0 w x.D) : Calls Tryz.prog 41 #[.agg #[.slice x.D.a x.D.Q.length x.D.c, .slice x.R.a x.R.Q.length x.R.c], .string s] w fun e w' => e = .returned (.int .i64 (arOf x.D.Q s)) ∧ Below w.heap.size w w' := by
  obtain ⟨W1, hW1⟩ : ∃ W1, W1 = w.alloc (.cells #[.slice x.D.a x.D.Q.length x.D.c, .slice x.R.a x.R.Q.length x.R.c] 32) := ⟨_, rfl⟩
  have B : Below w.heap.size w W1 := by rw [hW1]; exact below_alloc1 _ _
  have hD := declS_any x s W1 (hx.below B)
  have HA : Hid (arOf x.D.Q s = if s = pk then 4 else if s = fw then 1 else if (dOf x.D.Q s).k = 0 then -1 else (dOf x.D.Q s).ar) := rfl
  generalize arOf x.D.Q s = A at HA ⊢
  generalize dOf x.D.Q s = V at hD HA
  clear hx
  by_cases h1 : s = pk
  · have HR : Hid ((4 : Int) = A) := by rw [Hid, HA.out, if_pos h1]
    have e1 := pk_t h1
    clear h1 HA
    go_enter Tryz.func41, Tryz.ntmps41
    go_wp2
    go_ret
    exact ⟨ret_int HR.out, by rw [hW1] at B; exact B⟩
  by_cases h2 : s = fw
  · have HR : Hid ((1 : Int) = A) := by rw [Hid, HA.out, if_neg h1, if_pos h2]
    have e1 := pk_f h1
    have e2 := fw_t h2
    clear h1 h2 HA
    go_enter Tryz.func41, Tryz.ntmps41
    go_wp2
    go_ret
    exact ⟨ret_int HR.out, by rw [hW1] at B; exact B⟩
  have e1 := pk_f h1
  have e2 := fw_f h2
  have HV : Hid (A = if V.k = 0 then -1 else V.ar) := by rw [Hid, HA.out, if_neg h1, if_neg h2]
  clear h1 h2 HA
  by_cases hv : V.k = 0
  · have HR : Hid ((-1 : Int) = A) := by rw [Hid, HV.out, if_pos hv]
    clear HV
    go_enter Tryz.func41, Tryz.ntmps41
    go_wp2_with (go_at_call 42; rw [← hW1]; clear hW1; refine hD.mono ?_; rintro e w1 ⟨⟨d, hd, rfl⟩, hb⟩; replace hv : d.k = 0 := hd ▸ hv; clear hd; replace B := Rw.next B hb)
    go_ret
    exact ⟨ret_int HR.out, Rw.next B (below_alloc1 _ _)⟩
  · have HR : Hid (V.ar = A) := by rw [Hid, HV.out, if_neg hv]
    clear HV
    go_enter Tryz.func41, Tryz.ntmps41
    go_wp2_with (go_at_call 42; rw [← hW1]; clear hW1; refine hD.mono ?_; rintro e w1 ⟨⟨d, hd, rfl⟩, hb⟩; replace hv : ¬ d.k = 0 := hd ▸ hv; have HDV : Hid (d = V) := hd; clear hd; replace B := Rw.next B hb)
    go_ret
    exact ⟨ret_int (by rw [HDV.out]; exact HR.out), Rw.next B (below_alloc1 _ _)⟩

set_option maxHeartbeats 4000000 in
theorem movingS_any (x : Pg) (s : ByteArray) (w : World) (hx : Rd kdDc 0 w x.D) : Calls Tryz.prog 43 #[.agg #[.slice x.D.a x.D.Q.length x.D.c, .slice x.R.a x.R.Q.length x.R.c], .string s] w fun e w' => e = .returned (.bool (movB x.D.Q s)) ∧ Below w.heap.size w w' := by
  obtain ⟨W1, hW1⟩ : ∃ W1, W1 = w.alloc (.cells #[.slice x.D.a x.D.Q.length x.D.c, .slice x.R.a x.R.Q.length x.R.c] 32) := ⟨_, rfl⟩
  have B : Below w.heap.size w W1 := by rw [hW1]; exact below_alloc1 _ _
  have hD := declS_any x s W1 (hx.below B)
  have HA : Hid (movB x.D.Q s = (decide (s = pk) || decide ((dOf x.D.Q s).k = 2))) := rfl
  generalize movB x.D.Q s = A at HA ⊢
  generalize dOf x.D.Q s = V at hD HA
  clear hx
  have hf := field_k
  by_cases h1 : s = pk
  · obtain rfl : A = true := by rw [HA.out, show decide (s = pk) = true from decide_eq_true h1]; rfl
    have e1 := pk_t h1
    clear h1 HA
    go_enter Tryz.func43, Tryz.ntmps43
    go_wp2
    go_ret
    exact ⟨rfl, by rw [hW1] at B; exact B⟩
  have e1 := pk_f h1
  have HV : Hid (A = decide (V.k = 2)) := by rw [Hid, HA.out, show decide (s = pk) = false from decide_eq_false h1]; rfl
  clear h1 HA
  by_cases hv : V.k = 2
  · obtain rfl : A = true := by rw [HV.out]; simpa using hv
    clear HV
    go_enter Tryz.func43, Tryz.ntmps43
    go_wp2_with (go_at_call 42; rw [← hW1]; clear hW1; refine hD.mono ?_; rintro e w1 ⟨⟨d, hd, rfl⟩, hb⟩; replace hv : d.k = 2 := hd ▸ hv; clear hd; replace B := Rw.next B hb)
    go_ret
    exact ⟨rfl, B⟩
  · obtain rfl : A = false := by rw [HV.out]; simpa using hv
    clear HV
    go_enter Tryz.func43, Tryz.ntmps43
    go_wp2_with (go_at_call 42; rw [← hW1]; clear hW1; refine hD.mono ?_; rintro e w1 ⟨⟨d, hd, rfl⟩, hb⟩; replace hv : ¬ d.k = 2 := hd ▸ hv; clear hd; replace B := Rw.next B hb)
    go_ret
    exact ⟨Pm.ret_bool (by simpa using hv), B⟩

end Go.Proofs.YtljlgjgfmgilaaaGreat.Nq
