/-
  The specification's lookups of a name: the first declaration, how many terms, whether it moves.
-/
import Derived.Test.YtljlgjgfmgilaaaGreatNa
import Derived.Test.YtljlgjgfmgilaaaGreatPrd
import Derived.Deep.Cut
import Derived.Sort.Walk0
namespace Go.Proofs.YtljlgjgfmgilaaaGreat.Nq
set_option maxRecDepth 8000
set_option linter.unusedSimpArgs false
set_option linter.unusedVariables false
open Go Go.ChangeShapes Go.WideShapes Go.RowKit
open Num Pl Pm

def dcV (d : Dc) : Value := .agg #[.int .i64 d.k, .string d.s, .int .i64 d.ar]
theorem find_hit {D : List Dc} {s : ByteArray} {k : Nat} (hk : k < D.length) (h : (D.getD k dc0).s = s) (hb : ∀ i, i < k → (D.getD i dc0).s ≠ s) : D.find? (fun d => decide (d.s = s)) = some (D.getD k dc0) := by
  have e : D.getD k dc0 = D[k] := by simp [List.getD, hk]
  rw [e] at h ⊢
  refine List.find?_eq_some_iff_getElem.2 ⟨by simpa using h, k, hk, rfl, fun j hj => ?_⟩
  have := hb j hj
  have e2 : D.getD j dc0 = D[j] := by simp [List.getD, Nat.lt_trans hj hk]
  rw [e2] at this
  simpa using this
theorem find_miss {D : List Dc} {s : ByteArray} (hb : ∀ i, i < D.length → (D.getD i dc0).s ≠ s) : D.find? (fun d => decide (d.s = s)) = none := by
  refine List.find?_eq_none.2 fun d hd => ?_
  obtain ⟨i, hi, rfl⟩ := List.getElem_of_mem hd
  have := hb i hi
  have e : D.getD i dc0 = D[i] := by simp [List.getD, hi]
  rw [e] at this
  simpa using this

theorem toList_inj {a b : ByteArray} (h : a.toList = b.toList) : a = b := by
  rw [Go.Lib.toList_data, Go.Lib.toList_data] at h
  exact ByteArray.ext (Array.ext' h)
theorem ne_lists {a b : ByteArray} (h : a ≠ b) : (a.toList == b.toList) = false := by
  cases e : (a.toList == b.toList) with
  | false => rfl
  | true => exact absurd (toList_inj (by simpa using e)) h
theorem eq_lists {a b : ByteArray} (h : a = b) : (a.toList == b.toList) = true := by rw [h]; simp
theorem field_k (k : Int) (s : ByteArray) (ar : Int) (w : World) : (Instr.field 48 (.agg #[.int .i64 k, .string s, .int .i64 ar]) 0).run Tryz.prog w = .ok (.int .i64 k) w := by kernel_rfl
theorem field_ar (k : Int) (s : ByteArray) (ar : Int) (w : World) : (Instr.field 48 (.agg #[.int .i64 k, .string s, .int .i64 ar]) 2).run Tryz.prog w = .ok (.int .i64 ar) w := by kernel_rfl
theorem three {w : World} {g : Nat} {u v x : Value} {t : TypeId} {fr : Nat × Nat} (h : w.heap[g]? = some (.cells #[u, v, x] t fr)) : w.cell? ⟨g, 0, none⟩ = some u ∧ w.cell? ⟨g, 1, none⟩ = some v ∧ w.cell? ⟨g, 2, none⟩ = some x := by simp [World.cell?, h]

set_option maxHeartbeats 4000000 in
theorem declS_any (x : Pg) (s : ByteArray) (w : World) (hx : Rd kdDc 0 w x.D) : Calls Tryz.prog 42 #[.agg #[.slice x.D.a x.D.Q.length x.D.c, .slice x.R.a x.R.Q.length x.R.c], .string s] w fun e w' => (∃ d, d = dOf x.D.Q s ∧ e = .returned (.agg #[.int .i64 d.k, .string d.s, .int .i64 d.ar])) ∧ Below w.heap.size w w' := by
  obtain ⟨⟨da, db, dO, dc, dQ⟩, R⟩ := x
  simp only at hx ⊢
  obtain ⟨n, hn⟩ : ∃ n, n = dQ.length := ⟨_, rfl⟩
  have hm : n ≤ maxLen := by rw [hn]; exact hx.len
  unfold maxLen at hm
  have HB : Hid (∀ k, k < n → (∀ i, i < k → (dQ.getD i dc0).s ≠ s) → ∀ y, y = dQ.getD k dc0 → y.s = s → y = dOf dQ s) := fun k hk hb y hy h => by
    subst hy; exact (dOf_some (find_hit (by omega) h hb)).symm
  have HG : Hid ((∀ i, i < n → (dQ.getD i dc0).s ≠ s) → dc0 = dOf dQ s) := fun h => (dOf_none (find_miss (fun i hi => h i (by omega)))).symm
  generalize dOf dQ s = V at HB HG ⊢
  generalize R.Q.length = rl
  obtain ⟨W1, hW1⟩ : ∃ W1, W1 = (w.alloc (.cells #[.slice da n dc, .slice R.a rl R.c] 32)).alloc (.cells #[.int .i64 0, .string ⟨#[]⟩, .int .i64 0] 48) := ⟨_, rfl⟩
  have B : Below w.heap.size w W1 := by rw [hW1]; exact Rw.next (below_alloc1 _ _) (below_alloc1 _ _)
  have kz : W1.heap[w.heap.size + 1]? = some (.cells #[.int .i64 0, .string ⟨#[]⟩, .int .i64 0] 48 (0, 0)) := by rw [hW1]; exact at_new (by simp)
  have k0 : W1.heap[w.heap.size]? = some (.cells #[.slice da n dc, .slice R.a rl R.c] 32 (0, 0)) := by rw [hW1, at_old (by simp), at_new rfl]
  obtain ⟨p0, p1⟩ := Pl.two k0
  have h1 := hx.below B
  rw [← hn]
  have HN : Hid (n = dQ.length) := hn
  clear hn hx
  go_enter Tryz.func42, Tryz.ntmps42
  go_wp2
  rw [← hW1]
  clear hW1 p0 p1 k0
  go_loopw [10] (fun i wr => ∃ k : Nat, k ≤ n ∧ i = .int .i64 k ∧ Below W1.heap.size W1 wr ∧ ∀ i, i < k → (dQ.getD i dc0).s ≠ s) (fun i _ => n - (intOf i).toNat)
  case atStart => exact ⟨0, Nat.zero_le _, rfl, Below.refl _ _, fun i hi => by omega⟩
  case round =>
    obtain ⟨k, hk, rfl, hbel, hpre⟩ := hrel
    have HP : Hid (∀ i, i < k → (dQ.getD i dc0).s ≠ s) := hpre
    clear hpre
    have kr := (hbel.block _ (Pl.blk_lt kz)).trans kz
    have lr := Pl.blk_lt kr
    have B2 := Rw.next B hbel
    clear kz B
    by_cases hlt : k < n
    · have hh := h1.head (by have := HN.out; simp only; omega)
      have hkz : (k : Int) < (n : Int) := by omega
      obtain ⟨c0, c1, c2⟩ := cellsDc (h1.below hbel) (i := k) (by have := HN.out; simp only; omega)
      simp only at hh c0 c1 c2
      obtain rfl := hh
      have HY : Hid (∀ y, y = dQ.getD k dc0 → y.s = s → y = V) := fun y hy h => HB.out k hlt HP.out y hy h
      have HX : Hid (∀ y, y = dQ.getD k dc0 → y.s ≠ s → ∀ i, i < k + 1 → (dQ.getD i dc0).s ≠ s) := fun y hy h i hi => by
        by_cases e : i = k
        · subst e; rw [← hy]; exact h
        · exact HP.out i (by omega)
      clear h1 HB HG HN HP
      obtain ⟨y, hy⟩ : ∃ y, y = dQ.getD k dc0 := ⟨_, rfl⟩
      rw [← hy] at c0 c1 c2
      have HY2 := HY.out y hy
      have HX2 := HX.out y hy
      clear HY HX hy
      have b2 := below_alloc1 wr (.cells #[.int .i64 y.k, .string y.s, .int .i64 y.ar] 48)
      obtain ⟨z0, z1, z2⟩ := three kr
      have f0 := free kr 0
      have f1 := free kr 1
      have f2 := free kr 2
      by_cases he : y.s = s
      · have HYV : Hid (y = V) := HY2 he
        clear HX2 HY2
        subst he
        have e3 := at_old (o := .cells #[.int .i64 y.k, .string y.s, .int .i64 y.ar] 48) (by simpa using lr) |>.trans (set_blk (cs' := #[.int .i64 y.k, .string y.s, .int .i64 y.ar]) (set_blk (cs' := #[.int .i64 y.k, .string y.s, .int .i64 0]) (set_blk (cs' := #[.int .i64 y.k, .string ⟨#[]⟩, .int .i64 0]) kr 0 (.int .i64 y.k) rfl) 1 (.string y.s) rfl) 2 (.int .i64 y.ar) rfl)
        obtain ⟨r0, r1, r2⟩ := three e3
        go_wp2
        refine bodyPost_ret (v := .agg #[.int .i64 y.k, .string y.s, .int .i64 y.ar]) (by simp [results, Tryz.results42, go_sem, r0, r1, r2]) rfl ?_
        exact ⟨⟨y, HYV.out, rfl⟩, Rw.next (((B2.setCell (by simp) _).setCell (by simp) _).setCell (by simp) _) (below_alloc1 _ _)⟩
      · have hs := HX2 he
        clear HX2 HY2
        have hb := Rw.next hbel b2
        have e1 := ne_lists he
        go_wp2
        go_roundw
        case rel => exact ⟨k + 1, by omega, by go_num, hb, hs⟩
        case measure => simp [intOf]; omega
    · have he : k = n := by omega
      subst he
      clear h1
      have HV : Hid (dc0 = V) := HG.out HP.out
      obtain ⟨z0, z1, z2⟩ := three kr
      have f0 := free kr 0
      have f1 := free kr 1
      have f2 := free kr 2
      have e3 := set_blk (cs' := #[.int .i64 0, .string ⟨#[]⟩, .int .i64 0]) (set_blk (cs' := #[.int .i64 0, .string ⟨#[]⟩, .int .i64 0]) (set_blk (cs' := #[.int .i64 0, .string ⟨#[]⟩, .int .i64 0]) kr 0 (.int .i64 0) rfl) 1 (.string ⟨#[]⟩) rfl) 2 (.int .i64 0) rfl
      obtain ⟨r0, r1, r2⟩ := three e3
      go_wp2
      refine bodyPost_ret (v := .agg #[.int .i64 0, .string ⟨#[]⟩, .int .i64 0]) (by simp [results, Tryz.results42, go_sem, r0, r1, r2]) rfl ?_
      exact ⟨⟨dc0, HV.out, rfl⟩, ((B2.setCell (by simp) _).setCell (by simp) _).setCell (by simp) _⟩

end Go.Proofs.YtljlgjgfmgilaaaGreat.Nq
