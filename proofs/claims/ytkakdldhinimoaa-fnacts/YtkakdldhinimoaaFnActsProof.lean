/- What is sent goes to ports of the switch, never back, and a port that is sent to is told; no condition. -/
import Derived.Test.YtkakdldhinimoaaZo
import Derived.Test.YtkakdldhinimoaaZp
import Derived.Test.YtkakdldhinimoaaRg
import Derived.Deep.RegionHeld3
import Derived.Test.YtkakdldhinimoaaRows
import Derived.WalkKit
import Derived.ProofKit
import Derived.OpenShut
import Derived.ShutString
import Derived.ChangeOld
import Derived.Below
import Derived.Deep.RegionWith
namespace Go.Proofs.Ytkakdldhinimoaa.Yu
set_option maxRecDepth 8000
set_option linter.unusedSimpArgs false
set_option linter.unusedVariables false
open Go Go.RowKit
open Num Pl Hr Hh Pq Ht Yh Yl

/-- A head is handed back, in memory of the call's own, and the cursor goes on. -/
def HeadD (w : World) (g : Nat) (a : Option Addr) (b off cap : Nat) (c : List Int) (e : Ending) (w' : World) : Prop :=
  ∃ gv cv l, e = .returned (.agg #[.slice (some ⟨gv, 0, none⟩) (List.length l) cv]) ∧ Own w' gv l ∧ w.heap.size ≤ gv ∧ Dr.Cur w' g a b off cap c ∧ Mk.Only g w w'
theorem mine8 {w : World} {g : Nat} {x0 x1 x2 x3 x4 x5 x6 x7 : Int} (h : w.heap[g]? = some (.cells #[.int .i64 x0, .int .i64 x1, .int .i64 x2, .int .i64 x3, .int .i64 x4, .int .i64 x5, .int .i64 x6, .int .i64 x7] 3 (0, 0))) : Mine w g [x0, x1, x2, x3, x4, x5, x6, x7] := by
  refine ⟨⟨_, h, rfl, fun i hi => ?_⟩, by simp⟩
  rcases Hs.k8 (by simpa using hi : i < 8) with rfl | rfl | rfl | rfl | rfl | rfl | rfl | rfl <;> rfl
theorem own_onlyN {w w' : World} {g q : Nat} {l : List Int} (h : Mine w q l) (ho : Mk.Only g w w') (hne : q ≠ g) : Mine w' q l := Yq.mine_only h ho hne
theorem mine_put {w : World} {g F : Nat} {l : List Int} {x : Int} (h : Mine w g l) : Mine (w.setCell ⟨g, F, none⟩ (.int .i64 x)) g (l.set F x) := by
  refine ⟨?_, by simpa using h.size⟩
  rw [List.length_set]
  refine (h.row.set F _).congr fun i hi => ?_
  rw [set_at hi]
  by_cases e : i = F
  · rw [if_pos e, if_pos e]
  · rw [if_neg e, if_neg e]
theorem mine_of {w w' : World} {g : Nat} {l : List Int} (h : Mine w g l) (e : w'.heap[g]? = w.heap[g]?) : Mine w' g l := ⟨h.row.of_block e, h.size⟩
theorem pw_bound {k : Nat} (h : k ≤ 6) : 0 ≤ (pw k : Int) ∧ (pw k : Int) ≤ 281474976710656 := by
  have e : k = 0 ∨ k = 1 ∨ k = 2 ∨ k = 3 ∨ k = 4 ∨ k = 5 ∨ k = 6 := by omega
  rcases e with rfl | rfl | rfl | rfl | rfl | rfl | rfl <;> decide
theorem only_below {g : Nat} {w w1 w2 : World} (h : Mk.Only g w w1) (b : Below w1.heap.size w1 w2) : Mk.Only g w w2 :=
  ⟨b.os.trans h.os, b.tape.trans h.tape, b.output.trans h.output, Nat.le_trans h.size b.size, fun k hk hne => (b.block k (Nat.lt_of_lt_of_le hk h.size)).trans (h.block k hk hne)⟩
theorem wrap_of {x : Int} (h0 : -9223372036854775808 ≤ x) (h1 : x ≤ 9223372036854775807) : IntKind.i64.wrap x = x := by rw [IntKind.wrap_i64]; omega
theorem block_set1 {w : World} {g : Nat} {v0 u : Value} {t : TypeId} (k : w.heap[g]? = some (.cells #[v0] t (0, 0))) : (w.setCell ⟨g, 0, none⟩ u).heap[g]? = some (.cells #[u] t (0, 0)) := by
  simp [World.setCell, Array.getElem?_modify, k]

set_option maxHeartbeats 4000000 in
theorem head_any (g : Nat) (a : Option Addr) (b off cap : Nat) (c : List Int) (w : World) (h : Dr.Cur w g a b off cap c) :
    Calls Try.prog 87 #[.pointer (some ⟨g, 0, none⟩)] w fun e w' => ∃ gv l, e = .returned (.agg #[.slice (some ⟨gv, 0, none⟩) 8 8]) ∧ Mine w' gv l ∧ l.length = 8 ∧ w.heap.size ≤ gv ∧ Dr.Cur w' g a b off cap c ∧ Mk.Only g w w' := by
  obtain ⟨W0, hW0⟩ : ∃ W0, W0 = w.alloc (.cells #[.slice none 0 0] 42) := ⟨_, rfl⟩
  have hg := Dr.cur_lt h
  have hbl := Dr.rd_lt h.rd
  have hC0 : Dr.Cur W0 g a b off cap c := by subst hW0; exact Dr.cur_alloc h _
  have k0 : W0.heap[w.heap.size]? = some (.cells #[.slice none 0 0] 42 (0, 0)) := by subst hW0; exact at_new rfl
  have hON : Mk.Only g W0 W0 := Mk.Only.refl _ _
  have hO0 : Mk.Only g w W0 := by subst hW0; exact Dr.only_alloc (Mk.Only.refl _ _) _
  have z0 : w.heap.size < W0.heap.size := by subst hW0; simp
  clear h
  go_enter Try.func87, Try.ntmps87
  have t1 : True := trivial
  go_wp2_with (go_at_call 88; clear t1; rw [← hW0]; refine (Dr.below_any _ _ _ _ _ _ 4 _ hC0 (by omega) (by omega)).mono ?_; rintro e w1 ⟨x1, rfl, x10, x11, hC1, hO⟩; replace hON := Dr.only_trans hON hO; clear hC0 hO hW0)
  have t2 : True := trivial
  go_wp2_with (go_at_call 88; clear t2; refine (Dr.below_any _ _ _ _ _ _ 5 _ hC1 (by omega) (by omega)).mono ?_; rintro e w2 ⟨x2, rfl, x20, x21, hC2, hO⟩; replace hON := Dr.only_trans hON hO; clear hC1 hO)
  have t3 : True := trivial
  go_wp2_with (go_at_call 88; clear t3; refine (Dr.below_any _ _ _ _ _ _ 5 _ hC2 (by omega) (by omega)).mono ?_; rintro e w3 ⟨x3, rfl, x30, x31, hC3, hO⟩; replace hON := Dr.only_trans hON hO; clear hC2 hO)
  have t4 : True := trivial
  go_wp2_with (go_at_call 88; clear t4; refine (Dr.below_any _ _ _ _ _ _ 3 _ hC3 (by omega) (by omega)).mono ?_; rintro e w4 ⟨x4, rfl, x40, x41, hC4, hO⟩; replace hON := Dr.only_trans hON hO; clear hC3 hO)
  have t5 : True := trivial
  go_wp2_with (go_at_call 88; clear t5; refine (Dr.below_any _ _ _ _ _ _ 4 _ hC4 (by omega) (by omega)).mono ?_; rintro e w5 ⟨x5, rfl, x50, x51, hC5, hO⟩; replace hON := Dr.only_trans hON hO; clear hC4 hO)
  have t6 : True := trivial
  go_wp2_with (go_at_call 88; clear t6; refine (Dr.below_any _ _ _ _ _ _ 4 _ hC5 (by omega) (by omega)).mono ?_; rintro e w6 ⟨x6, rfl, x60, x61, hC6, hO⟩; replace hON := Dr.only_trans hON hO; clear hC5 hO)
  obtain ⟨W7, hW7⟩ : ∃ W7, W7 = (w6.alloc (.cells #[.int .i64 (1 + x1), .int .i64 x2, .int .i64 x3, .int .i64 2048, .int .i64 x4, .int .i64 x5, .int .i64 x6, .int .i64 17] 3)).alloc (.cells #[.slice (some ⟨w6.heap.size, 0, none⟩) 8 8] 42) := ⟨_, rfl⟩
  have oV : Mine W7 w6.heap.size [1 + x1, x2, x3, 2048, x4, x5, x6, 17] := by subst hW7; exact mine8 (by rw [at_old (by simp), at_new rfl])
  have kH : W7.heap[w6.heap.size + 1]? = some (.cells #[.slice (some ⟨w6.heap.size, 0, none⟩) 8 8] 42 (0, 0)) := by subst hW7; exact at_new (by simp)
  have hC7 : Dr.Cur W7 g a b off cap c := by subst hW7; exact Dr.cur_alloc (Dr.cur_alloc hC6 _) _
  have z6 : W0.heap.size ≤ w6.heap.size := hON.size
  have hg6 : g < w6.heap.size := by omega
  have kR : W7.heap[w.heap.size]? = some (.cells #[.slice none 0 0] 42 (0, 0)) := by
    have q := (hON.block _ z0 (by simp; omega)).trans k0
    subst hW7
    rw [at_old (by simp; omega), at_old (by omega)]
    exact q
  have hO7 : Mk.Only g w W7 := by subst hW7; exact Dr.only_alloc (Dr.only_alloc (Dr.only_trans hO0 hON) _) _
  have z7 : w6.heap.size + 2 ≤ W7.heap.size := by subst hW7; simp
  have hWlt : w.heap.size < w6.heap.size := by omega
  obtain ⟨l0, hl0⟩ : ∃ l0, l0 = [1 + x1, x2, x3, 2048, x4, x5, x6, 17] := ⟨_, rfl⟩
  rw [← hl0] at oV
  have l8 : l0.length = 8 := by rw [hl0]; rfl
  clear hl0 hON k0 hO0 z0 hC6
  have t7 : True := trivial
  go_wp2_with (go_at_call 88; clear t7; rw [← hW7]; refine (Dr.below_any _ _ _ _ _ _ 4 _ hC7 (by omega) (by omega)).mono ?_; rintro e w8 ⟨x7, rfl, x70, x71, hC8, hO⟩; clear hW7 hC7; replace oV := own_onlyN oV hO (by omega); replace kH := (hO.block _ (by omega) (by simp; omega)).trans kH; replace kR := (hO.block _ (by omega) (by simp; omega)).trans kR; replace hO7 := Dr.only_trans hO7 hO; have z8 := hO.size; clear hO; have c1 := Hh.one kH; have r1 := Hh.one kR; have r2 := Bl.free kR)
  · clear c1 r1 r2
    have t8 : True := trivial
    go_wp2_with (go_at_call 88; clear t8; refine (Dr.below_any _ _ _ _ _ _ 8 _ hC8 (by omega) (by omega)).mono ?_; rintro e w9 ⟨f, rfl, f0, f1, hC9, hO⟩; clear hC8; replace oV := own_onlyN oV hO (by omega); replace kH := (hO.block _ (by omega) (by simp; omega)).trans kH; replace kR := (hO.block _ (by omega) (by simp; omega)).trans kR; replace hO7 := Dr.only_trans hO7 hO; have z9 := hO.size; clear hO)
    obtain ⟨F, hF⟩ : ∃ F : Nat, f = F := ⟨f.toNat, by omega⟩
    subst hF
    have hF8 : F < 8 := by omega
    obtain ⟨q, hq⟩ : ∃ q : Int, q = Hf.fb F / 8 := ⟨_, rfl⟩
    have hq6 : 0 ≤ q ∧ q ≤ 6 := by rcases Hg.fb_val F with e | e | e | e | e <;> (rw [e] at hq; omega)
    obtain ⟨pp, hpp⟩ : ∃ pp : Int, pp = (pw q.toNat : Int) := ⟨_, rfl⟩
    have hp0 : 0 ≤ pp ∧ pp ≤ 281474976710656 := by rw [hpp]; exact pw_bound (by omega)
    have hd1 : (Hf.fb F).tdiv 8 = q := by rcases Hg.fb_val F with e | e | e | e | e <;> (rw [e] at hq ⊢; rw [hq]; rfl)
    have HPP : Hid (pp = (pw q.toNat : Int)) := hpp
    have hfr : 0 ≤ Hf.fb F ∧ Hf.fb F ≤ 48 := by rcases Hg.fb_val F with e | e | e | e | e <;> omega
    have hw1 : IntKind.i64.wrap q = q := wrap_of (by omega) (by omega)
    have hw2 : IntKind.i64.wrap (pp - 1) = pp - 1 := wrap_of (by omega) (by omega)
    clear hq hpp
    refine wp_region_held_drew (S := fun w' => w'.heap[w6.heap.size + 1]? = some (.cells #[.slice (some ⟨w6.heap.size, 0, none⟩) 8 8] 42 (0, 0))) (by kernel_rfl) kH (fun hHeld => ?_)
    refine take (i := 0) (d := some 25) (v := .pointer (some ⟨w6.heap.size + 1, 0, none⟩)) rfl (by kernel_rfl) (by kernel_rfl) (by kernel_rfl) (by kernel_rfl) (fun _ _ _ h => h) (Or.inl ⟨by rfl, by intro w hSw; go_simp⟩) hHeld ?_
    simp only [Act.put, List.setIfInBounds_toArray, List.set_cons_zero, List.set_cons_succ]
    refine take (i := 1) (d := some 26) (v := .slice (some ⟨w6.heap.size, 0, none⟩) 8 8) rfl (by kernel_rfl) (by kernel_rfl) (by kernel_rfl) (by kernel_rfl) (fun _ _ _ h => h) (Or.inl ⟨by rfl, by intro w hSw; have q1 := Hh.one hSw; go_simp⟩) hHeld ?_
    simp only [Act.put, List.setIfInBounds_toArray, List.set_cons_zero, List.set_cons_succ]
    refine take (i := 2) (d := some 27) (v := .int .i64 F) rfl (by kernel_rfl) (by kernel_rfl) (by kernel_rfl) (by kernel_rfl) (fun _ _ _ h => h) (Or.inl ⟨by rfl, by intro w hSw; go_simp⟩) hHeld ?_
    simp only [Act.put, List.setIfInBounds_toArray, List.set_cons_zero, List.set_cons_succ]
    refine take (i := 3) (d := some 28) (v := .int .i64 F) rfl (by kernel_rfl) (by kernel_rfl) (by kernel_rfl) (by kernel_rfl) (fun _ _ _ h => h) (Or.inl ⟨by rfl, by intro w hSw; go_simp⟩) hHeld ?_
    simp only [Act.put, List.setIfInBounds_toArray, List.set_cons_zero, List.set_cons_succ]
    refine take (i := 8) (d := some 33) (v := .pointer (some ⟨g, 0, none⟩)) rfl (by kernel_rfl) (by kernel_rfl) (by kernel_rfl) (by kernel_rfl) (fun _ _ _ h => h) (Or.inl ⟨by rfl, by intro w hSw; go_simp⟩) hHeld ?_
    simp only [Act.put, List.setIfInBounds_toArray, List.set_cons_zero, List.set_cons_succ]
    refine wpAnyH_ready (rs := [4]) (by kernel_rfl) (by simp) (Rg.call1 rfl (by kernel_rfl) 80 (.tmp 28) 3 (by kernel_rfl) 29 (by kernel_rfl) (.int .i64 F) (by kernel_rfl) (fun _ => rfl) (Hf.specBits_any _ _) ?_ AllReadyH.nil)
    rintro e wa ⟨rfl, hb⟩
    replace hb := Rw.next (Below.drew (Below.refl _ w9)) hb
    have za := hb.size
    replace oV := oV.below hb
    replace kH := (hb.block _ (by omega)).trans kH
    replace kR := (hb.block _ (by omega)).trans kR
    replace hC9 := Dr.cur_keep hC9 (fun k hk => hb.block k hk) (Dr.cur_lt hC9) (Dr.rd_lt hC9.rd)
    replace hO7 := only_below hO7 hb
    clear hb
    refine ⟨_, rfl, kH, fun hHeld => ?_⟩
    simp only [Act.put, List.setIfInBounds_toArray, List.set_cons_zero, List.set_cons_succ]
    refine take (i := 5) (d := some 30) (v := .int .i64 q) rfl (by kernel_rfl) (by kernel_rfl) (by kernel_rfl) (by kernel_rfl) (fun _ _ _ h => h) (Or.inl ⟨by rfl, by intro w hSw; go_simp⟩) hHeld ?_
    simp only [Act.put, List.setIfInBounds_toArray, List.set_cons_zero, List.set_cons_succ]
    refine wpAnyH_ready (rs := [6]) (by kernel_rfl) (by simp) (Rg.call1 rfl (by kernel_rfl) 103 (.tmp 30) 3 (by kernel_rfl) 31 (by kernel_rfl) (.int .i64 q) (by kernel_rfl) (fun _ => rfl) (Dr.powI q _ hq6.1 hq6.2) ?_ AllReadyH.nil)
    rw [← HPP.out]
    rintro e wb ⟨rfl, hw⟩
    replace hw := hw.symm
    subst hw
    refine ⟨_, rfl, kH, fun hHeld => ?_⟩
    simp only [Act.put, List.setIfInBounds_toArray, List.set_cons_zero, List.set_cons_succ]
    refine take (i := 7) (d := some 32) (v := .int .i64 (pp - 1)) rfl (by kernel_rfl) (by kernel_rfl) (by kernel_rfl) (by kernel_rfl) (fun _ _ _ h => h) (Or.inl ⟨by rfl, by intro w hSw; go_simp⟩) hHeld ?_
    simp only [Act.put, List.setIfInBounds_toArray, List.set_cons_zero, List.set_cons_succ]
    refine wpAnyH_ready (rs := [9]) (by kernel_rfl) (by simp) (Rg.call2 rfl (by kernel_rfl) 88 (.tmp 33) (.const (.int .i64 2)) 92 3 (by kernel_rfl) 34 (by kernel_rfl) (.pointer (some ⟨g, 0, none⟩)) (.int .i64 2) (by kernel_rfl) (by kernel_rfl) (fun _ => rfl) (Dr.below_any _ _ _ _ _ _ 2 _ hC9 (by omega) (by omega)) ?_ AllReadyH.nil)
    rintro e wc ⟨y, rfl, y0, y1, hC, hO⟩
    have zc := hO.size
    have hw3 : IntKind.i64.wrap (pp - 1 - y) = pp - 1 - y := wrap_of (by omega) (by omega)
    replace oV := own_onlyN oV hO (by omega)
    replace kH := (hO.block _ (by omega) (by simp; omega)).trans kH
    replace kR := (hO.block _ (by omega) (by simp; omega)).trans kR
    replace hO7 := Dr.only_trans hO7 hO
    clear hO hC9
    refine ⟨_, rfl, kH, fun hHeld => ?_⟩
    simp only [Act.put, List.setIfInBounds_toArray, List.set_cons_zero, List.set_cons_succ]
    refine take (i := 10) (d := some 35) (v := .int .i64 (pp - 1 - y)) rfl (by kernel_rfl) (by kernel_rfl) (by kernel_rfl) (by kernel_rfl) (fun _ _ _ h => h) (Or.inl ⟨by rfl, by intro w hSw; go_simp⟩) hHeld ?_
    simp only [Act.put, List.setIfInBounds_toArray, List.set_cons_zero, List.set_cons_succ]
    refine take (i := 11) (d := some 36) (v := .pointer (some ⟨w6.heap.size, F, none⟩)) rfl (by kernel_rfl) (by kernel_rfl) (by kernel_rfl) (by kernel_rfl) (fun _ _ _ h => h) (Or.inl ⟨by rfl, by intro w hSw; go_simp⟩) hHeld ?_
    simp only [Act.put, List.setIfInBounds_toArray, List.set_cons_zero, List.set_cons_succ]
    have cV := (mine_wt oV).cell F (by omega)
    have fV := (mine_wt oV).free F (by omega)
    refine wpAnyH_ready (rs := [12]) (by kernel_rfl) (by simp) (readySkip (i := 12) rfl (by kernel_rfl) none (by kernel_rfl) (w' := wc.setCell ⟨w6.heap.size, F, none⟩ (.int .i64 (pp - 1 - y))) (by go_simp) ((Below.heap_setCell _ _ _ _ (by simp)).trans kH) (fun hHeld => ?_) AllReadyH.nil)
    simp only [Act.put, List.setIfInBounds_toArray, List.set_cons_zero, List.set_cons_succ]
    refine wpAnyH_done (by kernel_rfl) ?_ _
    have oE := mine_put (F := F) (x := pp - 1 - y) oV
    have kHE : (wc.setCell ⟨w6.heap.size, F, none⟩ (.int .i64 (pp - 1 - y))).heap[w6.heap.size + 1]? = _ := (Below.heap_setCell _ _ _ _ (by simp)).trans kH
    have kRE : (wc.setCell ⟨w6.heap.size, F, none⟩ (.int .i64 (pp - 1 - y))).heap[w.heap.size]? = _ := (Below.heap_setCell _ _ _ _ (by simp; omega)).trans kR
    have hCE : Dr.Cur (wc.setCell ⟨w6.heap.size, F, none⟩ (.int .i64 (pp - 1 - y))) g a b off cap c := Dr.cur_keep hC (fun k hk => Below.heap_setCell _ _ _ _ (by simp; omega)) (B := w6.heap.size) hg6 (hbl.imp id (fun q => by omega))
    have hOE : Mk.Only g w (wc.setCell ⟨w6.heap.size, F, none⟩ (.int .i64 (pp - 1 - y))) := Dr.only_set hO7 (by omega)
    generalize wc.setCell ⟨w6.heap.size, F, none⟩ (.int .i64 (pp - 1 - y)) = wE at *
    have c1 := Hh.one kHE
    have r1 := Hh.one kRE
    have r2 := Bl.free kRE 0
    go_wp2
    refine bodyPost_ret (v := .agg #[.slice (some ⟨w6.heap.size, 0, none⟩) 8 8]) (by simp [results, Try.results87, go_sem, Hh.one (block_set1 kRE)]) rfl ⟨_, _, rfl, mine_of oE (Below.heap_setCell _ _ _ _ (by simp; omega)), by rw [List.length_set]; exact l8, by omega, Dr.cur_keep hCE (fun k hk => Below.heap_setCell _ _ _ _ (by simp; omega)) (B := w.heap.size) hg hbl, Dr.only_set hOE (Nat.le_refl _)⟩
  · refine bodyPost_ret (v := .agg #[.slice (some ⟨w6.heap.size, 0, none⟩) 8 8]) (by simp [results, Try.results87, go_sem, Hh.one (block_set1 kR)]) rfl ⟨_, _, rfl, mine_of oV (Below.heap_setCell _ _ _ _ (by simp; omega)), l8, by omega, Dr.cur_keep hC8 (fun k hk => Below.heap_setCell _ _ _ _ (by simp; omega)) (B := w.heap.size) hg hbl, Dr.only_set hO7 (Nat.le_refl _)⟩


end Go.Proofs.Ytkakdldhinimoaa.Yu

namespace Go.Proofs.Ytkakdldhinimoaa.Yv
set_option maxRecDepth 8000
set_option linter.unusedSimpArgs false
set_option linter.unusedVariables false
open Go Go.RowKit
open Num Pl Hr Hh Pq Ht Yh Yl Yu

theorem cur_drew {w : World} {g : Nat} {a : Option Addr} {b off cap : Nat} {c : List Int} (h : Dr.Cur w g a b off cap c) : Dr.Cur w.drew g a b off cap c := Dr.cur_keep h (fun k hk => rfl) (B := w.heap.size) (Dr.cur_lt h) (Dr.rd_lt h.rd)
theorem only_drew' {g : Nat} {w w' : World} (h : Mk.Only g w.drew w') : Mk.Only g w w' := ⟨h.os, h.tape, h.output, h.size, h.block⟩
theorem own_take {w : World} {g : Nat} {l : List Int} (n : Nat) (h : Own w g l) : Own w g (l.take n) := by
  obtain ⟨⟨c, hb, hc⟩, hs⟩ := h
  refine ⟨⟨c, hb, fun i hi => ?_⟩, by simp; omega⟩
  have hi' : i < l.length := by simp at hi; omega
  have hn : i < n := by simp at hi; omega
  rw [hc i hi']
  simp [List.getD, hn]
theorem hasN_mine {w : World} {B g : Nat} {l : List Int} (h : Mine w g l) (hB : B ≤ g) : HasN w B (.slice (some ⟨g, 0, none⟩) l.length l.length) l := by
  obtain ⟨⟨c, hb, hn, hc⟩, hs⟩ := h
  refine ⟨⟨by simp, .inr ⟨g, l.length, c, rfl, hB, hb, Nat.le_refl _, by unfold maxLen; omega, by omega, ?_⟩⟩, by simp⟩
  apply List.ext_getElem?
  intro i
  by_cases hi : i < l.length
  · rw [List.getElem?_take, if_pos (by omega), Array.getElem?_toList, hc i hi]
    simp [List.getD, hi]
  · rw [List.getElem?_take, if_neg (by omega), List.getElem?_eq_none (by simp; omega)]

set_option maxHeartbeats 8000000 in
theorem any_any (g : Nat) (a : Option Addr) (b off cap : Nat) (c : List Int) (w : World) (h : Dr.Cur w g a b off cap c) :
    Calls Try.prog 73 #[.pointer (some ⟨g, 0, none⟩)] w (HeadD w g a b off cap c) := by
  obtain ⟨W0, hW0⟩ : ∃ W0, W0 = w.alloc (.cells #[.slice none 0 0] 42) := ⟨_, rfl⟩
  have hg := Dr.cur_lt h
  have hbl := Dr.rd_lt h.rd
  have hC0 : Dr.Cur W0 g a b off cap c := by subst hW0; exact Dr.cur_alloc h _
  have k0 : W0.heap[w.heap.size]? = some (.cells #[.slice none 0 0] 42 (0, 0)) := by subst hW0; exact at_new rfl
  have hO0 : Mk.Only g w W0 := by subst hW0; exact Dr.only_alloc (Mk.Only.refl _ _) _
  have z0 : w.heap.size < W0.heap.size := by subst hW0; simp
  clear h
  go_enter Try.func73, Try.ntmps73
  go_wp2_with (go_at_call 87; rw [← hW0]; refine (head_any _ _ _ _ _ _ _ hC0).mono ?_; rintro e w1 ⟨gv, l, rfl, mV0, hl8, hgv, hC1, hO1⟩; clear hW0 hC0)
  obtain ⟨W2, hW2⟩ : ∃ W2, W2 = w1.alloc (.cells #[.slice (some ⟨gv, 0, none⟩) 8 8] 42) := ⟨_, rfl⟩
  have kH : W2.heap[w1.heap.size]? = some (.cells #[.slice (some ⟨gv, 0, none⟩) 8 8] 42 (0, 0)) := by subst hW2; exact at_new rfl
  have mV : Mine W2 gv l := by subst hW2; exact mV0.below (below_alloc1 _ _)
  have hgvH : gv < w1.heap.size := mV0.row.lt
  have z1 := hO1.size
  have hC : Dr.Cur W2 g a b off cap c := by subst hW2; exact Dr.cur_alloc hC1 _
  have kR : W2.heap[w.heap.size]? = some (.cells #[.slice none 0 0] 42 (0, 0)) := by
    have q := (hO1.block _ z0 (by simp; omega)).trans k0
    subst hW2
    rw [at_old (by omega)]
    exact q
  have hON : Mk.Only g w W2 := by subst hW2; exact Dr.only_alloc (Dr.only_trans hO0 hO1) _
  have zH : w1.heap.size < W2.heap.size := (Array.getElem?_eq_some_iff.1 kH).1
  have hRv : w.heap.size < gv := by omega
  have hgH : g < gv := by omega
  clear mV0 hC1 k0 hO0 hO1 z0 z1
  have t1 : True := trivial
  go_wp2_with (first | (go_at_call 88; clear t1; rw [← hW2]; refine (Dr.below_any _ _ _ _ _ _ 12 _ hC (by omega) (by omega)).mono ?_; rintro e w3 ⟨k, rfl, k0, k1, hC', hO⟩; clear hW2 hC; have hC := hC'; clear hC'; replace mV := own_onlyN mV hO (by omega); replace kH := (hO.block _ (by omega) (by simp <;> omega)).trans kH; replace kR := (hO.block _ (by omega) (by simp <;> omega)).trans kR; replace hON := Dr.only_trans hON hO; have zz := hO.size; replace zH : w1.heap.size < _ := Nat.lt_of_lt_of_le zH zz; clear zz; clear hO; have c1 := Hh.one kH; have r1 := Hh.one kR; have r2 := Bl.free kR; have c2 := Bl.free kH; have own5 := Yt.hasN_alloc (hasN_mine (B := gv) mV (Nat.le_refl _)) (.cells #[.int .i64 0] 3); have r5 := Yt.rd_one w3 0; have l8a := hl8) | (at_builtin; refine wpList_appN rfl (.tmp 30) (.tmp 31) rfl gv (.slice (some ⟨gv, 0, none⟩) 8 8) l [0] rfl (by rw [l8a] at own5; exact own5) ⟨w3.heap.size, 0, none⟩ w3.heap.size 0 1 rfl r5 (by simp; omega) (by simp; omega) ?_; intro v7 w7 hown7 hg7; obtain ⟨g7, c7, rfl, hg7l, o7, _⟩ := own_has hown7 (by simp; omega); have b4 := below_alloc1 w3 (.cells #[.int .i64 0] 3); have s4 := b4.size; have s7 := hg7.size; have kH7 := (hg7.block _ (by omega) (by simp [Value.ownBlock]; omega)).trans ((b4.block _ zH).trans kH); have kR7 := (hg7.block _ (by omega) (by simp [Value.ownBlock]; omega)).trans ((b4.block _ (by omega)).trans kR); have hC7 : Dr.Cur w7 g a b off cap c := Dr.cur_keep (B := gv) hC (fun q hq => (hg7.block q (by omega) (by simp [Value.ownBlock]; omega)).trans (b4.block q (by omega))) hgH (hbl.imp id (fun q => by omega)); have hO7 : Mk.Only g w w7 := Dr.only_grown (Dr.only_alloc hON _) hg7 (by intro q hq; simp [Value.ownBlock] at hq; omega); have c7f := Bl.free kH7; have c7c := Hh.one kH7; have r7c := Hh.one kR7; have r7f := Bl.free kR7; have n9 : (l ++ [0]).length = 9 := (by simp [l8a]); rw [n9]; rw [n9] at hown7))
  · obtain rfl : k = 0 := eq_of_beq (by assumption)
    clear c1 r1 r2 c2 own5 r5
    refine wp_region_held_drew (S := (fun w' => w'.heap[w1.heap.size]? = some (.cells #[.slice (some ⟨gv, 0, none⟩) 8 8] 42 (0, 0)))) (by kernel_rfl) kH (fun hHeld => ?_)
    refine take (i := 0) (d := some 12) (v := .pointer (some ⟨w1.heap.size, 0, none⟩)) rfl (by kernel_rfl) (by kernel_rfl) (by kernel_rfl) (by kernel_rfl) (fun _ _ _ h => h) (Or.inl ⟨by rfl, by intro w hSw; go_simp⟩) hHeld ?_
    simp only [Act.put, List.setIfInBounds_toArray, List.set_cons_zero, List.set_cons_succ]
    refine take (i := 1) (d := some 13) (v := .slice (some ⟨gv, 0, none⟩) 8 8) rfl (by kernel_rfl) (by kernel_rfl) (by kernel_rfl) (by kernel_rfl) (fun _ _ _ h => h) (Or.inl ⟨by rfl, by intro w hSw; have q1 := Hh.one hSw; go_simp⟩) hHeld ?_
    simp only [Act.put, List.setIfInBounds_toArray, List.set_cons_zero, List.set_cons_succ]
    refine take (i := 2) (d := some 14) (v := .pointer (some ⟨g, 0, none⟩)) rfl (by kernel_rfl) (by kernel_rfl) (by kernel_rfl) (by kernel_rfl) (fun _ _ _ h => h) (Or.inl ⟨by rfl, by intro w hSw; go_simp⟩) hHeld ?_
    simp only [Act.put, List.setIfInBounds_toArray, List.set_cons_zero, List.set_cons_succ]
    refine take (i := 4) (d := some 16) (v := .pointer (some ⟨g, 0, none⟩)) rfl (by kernel_rfl) (by kernel_rfl) (by kernel_rfl) (by kernel_rfl) (fun _ _ _ h => h) (Or.inl ⟨by rfl, by intro w hSw; go_simp⟩) hHeld ?_
    simp only [Act.put, List.setIfInBounds_toArray, List.set_cons_zero, List.set_cons_succ]
    refine wpAnyH_ready (rs := [3]) (by kernel_rfl) (by simp) (Rg.call2 (i := 3) rfl (by kernel_rfl) 88 (.tmp 14) (.const (.int .i64 8)) 92 3 (by kernel_rfl) 15 (by kernel_rfl) (.pointer (some ⟨g, 0, none⟩)) (.int .i64 8) (by kernel_rfl) (by kernel_rfl) (fun _ => rfl) (Dr.below_any _ _ _ _ _ _ 8 _ (cur_drew hC) (by omega) (by omega)) ?_ AllReadyH.nil)
    rintro e w4 ⟨f, rfl, f0, f1, hC', hO⟩
    replace hO := only_drew' hO
    clear hC
    have hC := hC'
    clear hC'
    replace mV := own_onlyN mV hO (by omega)
    replace kH := (hO.block _ (by omega) (by simp; omega)).trans kH
    replace kR := (hO.block _ (by omega) (by simp; omega)).trans kR
    replace hON := Dr.only_trans hON hO
    have zz := hO.size
    replace zH : w1.heap.size < _ := Nat.lt_of_lt_of_le zH zz
    clear zz
    clear hO
    refine ⟨_, rfl, kH, fun hHeld => ?_⟩
    simp only [Act.put, List.setIfInBounds_toArray, List.set_cons_zero, List.set_cons_succ]
    refine wpAnyH_ready (rs := [5]) (by kernel_rfl) (by simp) (Rg.call1 (i := 5) rfl (by kernel_rfl) 102 (.tmp 16) 92 (by kernel_rfl) 17 (by kernel_rfl) (.pointer (some ⟨g, 0, none⟩)) (by kernel_rfl) (fun _ => rfl) (Dr.raw_any _ _ _ _ _ _ _ hC) ?_ AllReadyH.nil)
    rintro e w5 ⟨x, rfl, hC', hO⟩
    clear hC
    have hC := hC'
    clear hC'
    replace mV := own_onlyN mV hO (by omega)
    replace kH := (hO.block _ (by omega) (by simp; omega)).trans kH
    replace kR := (hO.block _ (by omega) (by simp; omega)).trans kR
    replace hON := Dr.only_trans hON hO
    have zz := hO.size
    replace zH : w1.heap.size < _ := Nat.lt_of_lt_of_le zH zz
    clear zz
    clear hO
    refine ⟨_, rfl, kH, fun hHeld => ?_⟩
    simp only [Act.put, List.setIfInBounds_toArray, List.set_cons_zero, List.set_cons_succ]
    obtain ⟨F, hF⟩ : ∃ F : Nat, f = F := ⟨f.toNat, by omega⟩
    subst hF
    refine take (i := 6) (d := some 18) (v := .pointer (some ⟨gv, F, none⟩)) rfl (by kernel_rfl) (by kernel_rfl) (by kernel_rfl) (by kernel_rfl) (fun _ _ _ h => h) (Or.inl ⟨by rfl, by intro w hSw; go_simp⟩) hHeld ?_
    simp only [Act.put, List.setIfInBounds_toArray, List.set_cons_zero, List.set_cons_succ]
    have cV := (mine_wt mV).cell F (by omega)
    have fV := (mine_wt mV).free F (by omega)
    refine wpAnyH_ready (rs := [7]) (by kernel_rfl) (by simp) (readySkip (i := 7) rfl (by kernel_rfl) none (by kernel_rfl) (w' := w5.setCell ⟨gv, F, none⟩ (.int .i64 x)) (by go_simp) ((Below.heap_setCell _ _ _ _ (by simp; omega)).trans kH) (fun hHeld => ?_) AllReadyH.nil)
    simp only [Act.put, List.setIfInBounds_toArray, List.set_cons_zero, List.set_cons_succ]
    refine wpAnyH_done (by kernel_rfl) ?_ _
    have oE := mine_put (F := F) (x := x) mV
    have kHE := (Below.heap_setCell w5 ⟨gv, F, none⟩ (.int .i64 x) w1.heap.size (by simp; omega)).trans kH
    have kRE := (Below.heap_setCell w5 ⟨gv, F, none⟩ (.int .i64 x) w.heap.size (by simp; omega)).trans kR
    have hCE : Dr.Cur (w5.setCell ⟨gv, F, none⟩ (.int .i64 x)) g a b off cap c := Dr.cur_keep (B := gv) hC (fun k hk => Below.heap_setCell w5 ⟨gv, F, none⟩ (.int .i64 x) k (by simp; omega)) hgH (hbl.imp id (fun q => by omega))
    have hOE : Mk.Only g w (w5.setCell ⟨gv, F, none⟩ (.int .i64 x)) := Dr.only_set hON (by omega)
    generalize w5.setCell ⟨gv, F, none⟩ (.int .i64 x) = wE at *
    have e1 := Hh.one kHE
    have e2 := Hh.one kRE
    have e3 := Bl.free kRE 0
    go_wp2
    exact bodyPost_ret (v := .agg #[.slice (some ⟨gv, 0, none⟩) 8 8]) (by simp [results, Try.results73, go_sem, Hh.one (block_set1 kRE)]) rfl ⟨gv, 8, (l.set F x), by rw [List.length_set, hl8], own_mine (mine_of oE (Below.heap_setCell _ _ _ _ (by simp; omega))), by omega, Dr.cur_keep (B := w.heap.size) hCE (fun k hk => Below.heap_setCell _ _ _ k (by simp; omega)) hg hbl, Dr.only_set hOE (Nat.le_refl _)⟩
  · obtain rfl : k = 1 := eq_of_beq (by assumption)
    clear c1 r1 r2 c2 own5 r5
    have e0 := Hh.one kH
    refine wp_region_held_drew (S := (fun _ => True)) (by kernel_rfl) trivial (fun hHeld => ?_)
    refine take (i := 0) (d := some 21) (v := .pointer (some ⟨w1.heap.size, 0, none⟩)) rfl (by kernel_rfl) (by kernel_rfl) (by kernel_rfl) (by kernel_rfl) (fun _ _ _ h => h) (Or.inl ⟨by rfl, by intro w hSw; go_simp⟩) hHeld ?_
    simp only [Act.put, List.setIfInBounds_toArray, List.set_cons_zero, List.set_cons_succ]
    refine take (i := 2) (d := some 23) (v := .pointer (some ⟨g, 0, none⟩)) rfl (by kernel_rfl) (by kernel_rfl) (by kernel_rfl) (by kernel_rfl) (fun _ _ _ h => h) (Or.inl ⟨by rfl, by intro w hSw; go_simp⟩) hHeld ?_
    simp only [Act.put, List.setIfInBounds_toArray, List.set_cons_zero, List.set_cons_succ]
    refine wpAnyH_ready (rs := [1, 3]) (by kernel_rfl) (by simp) (readyRun (i := 1) rfl (by kernel_rfl) (some 22) (by kernel_rfl) (v := .slice (some ⟨gv, 0, none⟩) 8 8) (w' := w3.drew) (by go_simp) trivial (fun hHeld => ?_) (Rg.call2 (i := 3) rfl (by kernel_rfl) 88 (.tmp 23) (.const (.int .i64 8)) 92 3 (by kernel_rfl) 24 (by kernel_rfl) (.pointer (some ⟨g, 0, none⟩)) (.int .i64 8) (by kernel_rfl) (by kernel_rfl) (fun _ => rfl) (Dr.below_any _ _ _ _ _ _ 8 _ (cur_drew hC) (by omega) (by omega)) ?_ AllReadyH.nil))
    · simp only [Act.put, List.setIfInBounds_toArray, List.set_cons_zero, List.set_cons_succ]
      refine wpAnyH_ready (rs := [3]) (by kernel_rfl) (by simp) (Rg.call2 (i := 3) rfl (by kernel_rfl) 88 (.tmp 23) (.const (.int .i64 8)) 92 3 (by kernel_rfl) 24 (by kernel_rfl) (.pointer (some ⟨g, 0, none⟩)) (.int .i64 8) (by kernel_rfl) (by kernel_rfl) (fun _ => rfl) (Dr.below_any _ _ _ _ _ _ 8 _ (cur_drew hC) (by omega) (by omega)) ?_ AllReadyH.nil)
      rintro e w4 ⟨f, rfl, f0, f1, hC', hO⟩
      replace hO := only_drew' hO
      clear hC
      have hC := hC'
      clear hC'
      replace mV := own_onlyN mV hO (by omega)
      replace kH := (hO.block _ (by omega) (by simp; omega)).trans kH
      replace kR := (hO.block _ (by omega) (by simp; omega)).trans kR
      replace hON := Dr.only_trans hON hO
      have zz := hO.size
      replace zH : w1.heap.size < _ := Nat.lt_of_lt_of_le zH zz
      clear zz
      clear hO e0
      have e0 := Hh.one kH
      refine ⟨_, rfl, trivial, fun hHeld => ?_⟩
      simp only [Act.put, List.setIfInBounds_toArray, List.set_cons_zero, List.set_cons_succ]
      obtain ⟨F, hF⟩ : ∃ F : Nat, f = F := ⟨f.toNat, by omega⟩
      subst hF
      have hFz : (F : Int) ≤ 8 := by omega
      refine take (i := 4) (d := some 25) (v := .slice (some ⟨gv, 0, none⟩) F 8) rfl (by kernel_rfl) (by kernel_rfl) (by kernel_rfl) (by kernel_rfl) (fun _ _ _ h => h) (Or.inl ⟨by rfl, by intro w hSw; go_simp⟩) hHeld ?_
      simp only [Act.put, List.setIfInBounds_toArray, List.set_cons_zero, List.set_cons_succ]
      refine take (i := 5) (d := some 26) (v := .pointer (some ⟨w1.heap.size, 0, none⟩)) rfl (by kernel_rfl) (by kernel_rfl) (by kernel_rfl) (by kernel_rfl) (fun _ _ _ h => h) (Or.inl ⟨by rfl, by intro w hSw; go_simp⟩) hHeld ?_
      simp only [Act.put, List.setIfInBounds_toArray, List.set_cons_zero, List.set_cons_succ]
      have fH := Bl.free kH 0
      refine wpAnyH_ready (rs := [6]) (by kernel_rfl) (by simp) (readySkip (i := 6) rfl (by kernel_rfl) none (by kernel_rfl) (w' := w4.setCell ⟨w1.heap.size, 0, none⟩ (.slice (some ⟨gv, 0, none⟩) F 8)) (by go_simp) trivial (fun hHeld => ?_) AllReadyH.nil)
      simp only [Act.put, List.setIfInBounds_toArray, List.set_cons_zero, List.set_cons_succ]
      refine wpAnyH_done (by kernel_rfl) ?_ _
      have kHE := block_set1 (u := .slice (some ⟨gv, 0, none⟩) F 8) kH
      have oE := own_take F (own_mine (mine_of mV (Below.heap_setCell w4 ⟨w1.heap.size, 0, none⟩ (.slice (some ⟨gv, 0, none⟩) F 8) gv (by simp; omega))))
      have kRE := (Below.heap_setCell w4 ⟨w1.heap.size, 0, none⟩ (.slice (some ⟨gv, 0, none⟩) F 8) w.heap.size (by simp; omega)).trans kR
      have hCE : Dr.Cur (w4.setCell ⟨w1.heap.size, 0, none⟩ (.slice (some ⟨gv, 0, none⟩) F 8)) g a b off cap c := Dr.cur_keep (B := gv) hC (fun k hk => Below.heap_setCell w4 ⟨w1.heap.size, 0, none⟩ (.slice (some ⟨gv, 0, none⟩) F 8) k (by simp; omega)) hgH (hbl.imp id (fun q => by omega))
      have hOE : Mk.Only g w (w4.setCell ⟨w1.heap.size, 0, none⟩ (.slice (some ⟨gv, 0, none⟩) F 8)) := Dr.only_set hON (by omega)
      generalize w4.setCell ⟨w1.heap.size, 0, none⟩ (.slice (some ⟨gv, 0, none⟩) F 8) = wE at *
      clear e0
      have e1 := Hh.one kHE
      have e2 := Hh.one kRE
      have e3 := Bl.free kRE 0
      go_wp2
      exact bodyPost_ret (v := .agg #[.slice (some ⟨gv, 0, none⟩) F 8]) (by simp [results, Try.results73, go_sem, Hh.one (block_set1 kRE)]) rfl ⟨gv, 8, (l.take F), by rw [List.length_take, hl8, Nat.min_eq_left (by omega)], oE.of_block (Below.heap_setCell _ _ _ _ (by simp; omega)), by omega, Dr.cur_keep (B := w.heap.size) hCE (fun k hk => Below.heap_setCell _ _ _ k (by simp; omega)) hg hbl, Dr.only_set hOE (Nat.le_refl _)⟩
    · rintro e w4 ⟨f, rfl, f0, f1, hC', hO⟩
      replace hO := only_drew' hO
      clear hC
      have hC := hC'
      clear hC'
      replace mV := own_onlyN mV hO (by omega)
      replace kH := (hO.block _ (by omega) (by simp; omega)).trans kH
      replace kR := (hO.block _ (by omega) (by simp; omega)).trans kR
      replace hON := Dr.only_trans hON hO
      have zz := hO.size
      replace zH : w1.heap.size < _ := Nat.lt_of_lt_of_le zH zz
      clear zz
      clear hO e0
      have e0 := Hh.one kH
      refine ⟨_, rfl, trivial, fun hHeld => ?_⟩
      simp only [Act.put, List.setIfInBounds_toArray, List.set_cons_zero, List.set_cons_succ]
      refine wpAnyH_ready (rs := [1]) (by kernel_rfl) (by simp) (readyRun (i := 1) rfl (by kernel_rfl) (some 22) (by kernel_rfl) (v := .slice (some ⟨gv, 0, none⟩) 8 8) (w' := w4) (by go_simp) trivial (fun hHeld => ?_) AllReadyH.nil)
      simp only [Act.put, List.setIfInBounds_toArray, List.set_cons_zero, List.set_cons_succ]
      obtain ⟨F, hF⟩ : ∃ F : Nat, f = F := ⟨f.toNat, by omega⟩
      subst hF
      have hFz : (F : Int) ≤ 8 := by omega
      refine take (i := 4) (d := some 25) (v := .slice (some ⟨gv, 0, none⟩) F 8) rfl (by kernel_rfl) (by kernel_rfl) (by kernel_rfl) (by kernel_rfl) (fun _ _ _ h => h) (Or.inl ⟨by rfl, by intro w hSw; go_simp⟩) hHeld ?_
      simp only [Act.put, List.setIfInBounds_toArray, List.set_cons_zero, List.set_cons_succ]
      refine take (i := 5) (d := some 26) (v := .pointer (some ⟨w1.heap.size, 0, none⟩)) rfl (by kernel_rfl) (by kernel_rfl) (by kernel_rfl) (by kernel_rfl) (fun _ _ _ h => h) (Or.inl ⟨by rfl, by intro w hSw; go_simp⟩) hHeld ?_
      simp only [Act.put, List.setIfInBounds_toArray, List.set_cons_zero, List.set_cons_succ]
      have fH := Bl.free kH 0
      refine wpAnyH_ready (rs := [6]) (by kernel_rfl) (by simp) (readySkip (i := 6) rfl (by kernel_rfl) none (by kernel_rfl) (w' := w4.setCell ⟨w1.heap.size, 0, none⟩ (.slice (some ⟨gv, 0, none⟩) F 8)) (by go_simp) trivial (fun hHeld => ?_) AllReadyH.nil)
      simp only [Act.put, List.setIfInBounds_toArray, List.set_cons_zero, List.set_cons_succ]
      refine wpAnyH_done (by kernel_rfl) ?_ _
      have kHE := block_set1 (u := .slice (some ⟨gv, 0, none⟩) F 8) kH
      have oE := own_take F (own_mine (mine_of mV (Below.heap_setCell w4 ⟨w1.heap.size, 0, none⟩ (.slice (some ⟨gv, 0, none⟩) F 8) gv (by simp; omega))))
      have kRE := (Below.heap_setCell w4 ⟨w1.heap.size, 0, none⟩ (.slice (some ⟨gv, 0, none⟩) F 8) w.heap.size (by simp; omega)).trans kR
      have hCE : Dr.Cur (w4.setCell ⟨w1.heap.size, 0, none⟩ (.slice (some ⟨gv, 0, none⟩) F 8)) g a b off cap c := Dr.cur_keep (B := gv) hC (fun k hk => Below.heap_setCell w4 ⟨w1.heap.size, 0, none⟩ (.slice (some ⟨gv, 0, none⟩) F 8) k (by simp; omega)) hgH (hbl.imp id (fun q => by omega))
      have hOE : Mk.Only g w (w4.setCell ⟨w1.heap.size, 0, none⟩ (.slice (some ⟨gv, 0, none⟩) F 8)) := Dr.only_set hON (by omega)
      generalize w4.setCell ⟨w1.heap.size, 0, none⟩ (.slice (some ⟨gv, 0, none⟩) F 8) = wE at *
      clear e0
      have e1 := Hh.one kHE
      have e2 := Hh.one kRE
      have e3 := Bl.free kRE 0
      go_wp2
      exact bodyPost_ret (v := .agg #[.slice (some ⟨gv, 0, none⟩) F 8]) (by simp [results, Try.results73, go_sem, Hh.one (block_set1 kRE)]) rfl ⟨gv, 8, (l.take F), by rw [List.length_take, hl8, Nat.min_eq_left (by omega)], oE.of_block (Below.heap_setCell _ _ _ _ (by simp; omega)), by omega, Dr.cur_keep (B := w.heap.size) hCE (fun k hk => Below.heap_setCell _ _ _ k (by simp; omega)) hg hbl, Dr.only_set hOE (Nat.le_refl _)⟩
  · have hne : g7 ≠ w1.heap.size := by
      intro e
      obtain ⟨⟨cc, hb, _⟩, _⟩ := o7
      rw [e, kH7] at hb
      simp at hb
    have kRE := (Below.heap_setCell w7 ⟨w1.heap.size, 0, none⟩ (.slice (some ⟨g7, 0, none⟩) 9 c7) w.heap.size (by simp; omega)).trans kR7
    have oE := o7.of_block (Below.heap_setCell w7 ⟨w1.heap.size, 0, none⟩ (.slice (some ⟨g7, 0, none⟩) 9 c7) g7 (by simp; omega))
    have hCE : Dr.Cur (w7.setCell ⟨w1.heap.size, 0, none⟩ (.slice (some ⟨g7, 0, none⟩) 9 c7)) g a b off cap c := Dr.cur_keep (B := gv) hC7 (fun k hk => Below.heap_setCell w7 ⟨w1.heap.size, 0, none⟩ (.slice (some ⟨g7, 0, none⟩) 9 c7) k (by simp; omega)) hgH (hbl.imp id (fun q => by omega))
    have hOE : Mk.Only g w (w7.setCell ⟨w1.heap.size, 0, none⟩ (.slice (some ⟨g7, 0, none⟩) 9 c7)) := Dr.only_set hO7 (by omega)
    exact bodyPost_ret (v := .agg #[.slice (some ⟨g7, 0, none⟩) 9 c7]) (by simp [results, Try.results73, go_sem, Hh.one (block_set1 kRE)]) rfl ⟨g7, c7, (l ++ [0]), by rw [n9], oE.of_block (Below.heap_setCell _ _ _ _ (by simp; omega)), by omega, Dr.cur_keep (B := w.heap.size) hCE (fun k hk => Below.heap_setCell _ _ _ k (by simp; omega)) hg hbl, Dr.only_set hOE (Nat.le_refl _)⟩
  · obtain rfl : k = 3 := eq_of_beq (by assumption)
    clear c1 r1 r2 c2 own5 r5
    have t3 : True := trivial
    go_wp2_with (go_at_call 88; clear t3; refine (Dr.below_any _ _ _ _ _ _ 8 _ hC (by omega) (by omega)).mono ?_; rintro e w4 ⟨f, rfl, f0, f1, hC', hO⟩; clear hC; have hC := hC'; clear hC'; replace mV := own_onlyN mV hO (by omega); replace kH := (hO.block _ (by omega) (by simp <;> omega)).trans kH; replace kR := (hO.block _ (by omega) (by simp <;> omega)).trans kR; replace hON := Dr.only_trans hON hO; have zz := hO.size; replace zH : w1.heap.size < _ := Nat.lt_of_lt_of_le zH zz; clear zz; clear hO)
    obtain ⟨F, hF⟩ : ∃ F : Nat, f = F := ⟨f.toNat, by omega⟩
    subst hF
    obtain ⟨q, hq⟩ : ∃ q : Int, q = Hf.fb F / 8 := ⟨_, rfl⟩
    have hq6 : 0 ≤ q ∧ q ≤ 6 := by rcases Hg.fb_val F with e | e | e | e | e <;> (rw [e] at hq; omega)
    obtain ⟨pp, hpp⟩ : ∃ pp : Int, pp = (pw q.toNat : Int) := ⟨_, rfl⟩
    have hd1 : (Hf.fb F).tdiv 8 = q := by rcases Hg.fb_val F with e | e | e | e | e <;> (rw [e] at hq ⊢; rw [hq]; rfl)
    have HPP : Hid (pp = (pw q.toNat : Int)) := hpp
    have hfr : 0 ≤ Hf.fb F ∧ Hf.fb F ≤ 48 := by rcases Hg.fb_val F with e | e | e | e | e <;> omega
    have hw1 : IntKind.i64.wrap q = q := wrap_of (by omega) (by omega)
    clear hq hpp
    refine wp_region_held_drew (S := (fun w' => w'.heap[w1.heap.size]? = some (.cells #[.slice (some ⟨gv, 0, none⟩) 8 8] 42 (0, 0)))) (by kernel_rfl) kH (fun hHeld => ?_)
    refine take (i := 0) (d := some 38) (v := .pointer (some ⟨w1.heap.size, 0, none⟩)) rfl (by kernel_rfl) (by kernel_rfl) (by kernel_rfl) (by kernel_rfl) (fun _ _ _ h => h) (Or.inl ⟨by rfl, by intro w hSw; go_simp⟩) hHeld ?_
    simp only [Act.put, List.setIfInBounds_toArray, List.set_cons_zero, List.set_cons_succ]
    refine take (i := 1) (d := some 39) (v := .slice (some ⟨gv, 0, none⟩) 8 8) rfl (by kernel_rfl) (by kernel_rfl) (by kernel_rfl) (by kernel_rfl) (fun _ _ _ h => h) (Or.inl ⟨by rfl, by intro w hSw; have q1 := Hh.one hSw; go_simp⟩) hHeld ?_
    simp only [Act.put, List.setIfInBounds_toArray, List.set_cons_zero, List.set_cons_succ]
    refine take (i := 2) (d := some 40) (v := .int .i64 F) rfl (by kernel_rfl) (by kernel_rfl) (by kernel_rfl) (by kernel_rfl) (fun _ _ _ h => h) (Or.inl ⟨by rfl, by intro w hSw; go_simp⟩) hHeld ?_
    simp only [Act.put, List.setIfInBounds_toArray, List.set_cons_zero, List.set_cons_succ]
    refine take (i := 3) (d := some 41) (v := .int .i64 F) rfl (by kernel_rfl) (by kernel_rfl) (by kernel_rfl) (by kernel_rfl) (fun _ _ _ h => h) (Or.inl ⟨by rfl, by intro w hSw; go_simp⟩) hHeld ?_
    simp only [Act.put, List.setIfInBounds_toArray, List.set_cons_zero, List.set_cons_succ]
    refine wpAnyH_ready (rs := [4]) (by kernel_rfl) (by simp) (Rg.call1 rfl (by kernel_rfl) 80 (.tmp 41) 3 (by kernel_rfl) 42 (by kernel_rfl) (.int .i64 F) (by kernel_rfl) (fun _ => rfl) (Hf.specBits_any _ _) ?_ AllReadyH.nil)
    rintro e wa ⟨rfl, hb⟩
    replace hb := Rw.next (Below.drew (Below.refl _ w4)) hb
    replace mV := mV.below hb
    replace kH := (hb.block _ (by omega)).trans kH
    replace kR := (hb.block _ (by omega)).trans kR
    replace hC := Dr.cur_keep hC (fun k hk => hb.block k hk) (Dr.cur_lt hC) (Dr.rd_lt hC.rd)
    replace hON := only_below hON hb
    have zz := hb.size
    replace zH : w1.heap.size < _ := Nat.lt_of_lt_of_le zH zz
    clear zz
    clear hb
    refine ⟨_, rfl, kH, fun hHeld => ?_⟩
    simp only [Act.put, List.setIfInBounds_toArray, List.set_cons_zero, List.set_cons_succ]
    refine take (i := 5) (d := some 43) (v := .int .i64 q) rfl (by kernel_rfl) (by kernel_rfl) (by kernel_rfl) (by kernel_rfl) (fun _ _ _ h => h) (Or.inl ⟨by rfl, by intro w hSw; go_simp⟩) hHeld ?_
    simp only [Act.put, List.setIfInBounds_toArray, List.set_cons_zero, List.set_cons_succ]
    refine wpAnyH_ready (rs := [6]) (by kernel_rfl) (by simp) (Rg.call1 rfl (by kernel_rfl) 103 (.tmp 43) 3 (by kernel_rfl) 44 (by kernel_rfl) (.int .i64 q) (by kernel_rfl) (fun _ => rfl) (Dr.powI q _ hq6.1 hq6.2) ?_ AllReadyH.nil)
    rw [← HPP.out]
    rintro e wb ⟨rfl, hw⟩
    replace hw := hw.symm
    subst hw
    refine ⟨_, rfl, kH, fun hHeld => ?_⟩
    simp only [Act.put, List.setIfInBounds_toArray, List.set_cons_zero, List.set_cons_succ]
    refine take (i := 7) (d := some 45) (v := .pointer (some ⟨gv, F, none⟩)) rfl (by kernel_rfl) (by kernel_rfl) (by kernel_rfl) (by kernel_rfl) (fun _ _ _ h => h) (Or.inl ⟨by rfl, by intro w hSw; go_simp⟩) hHeld ?_
    simp only [Act.put, List.setIfInBounds_toArray, List.set_cons_zero, List.set_cons_succ]
    have cV := (mine_wt mV).cell F (by omega)
    have fV := (mine_wt mV).free F (by omega)
    refine wpAnyH_ready (rs := [8]) (by kernel_rfl) (by simp) (readySkip (i := 8) rfl (by kernel_rfl) none (by kernel_rfl) (w' := wa.setCell ⟨gv, F, none⟩ (.int .i64 pp)) (by go_simp) ((Below.heap_setCell _ _ _ _ (by simp; omega)).trans kH) (fun hHeld => ?_) AllReadyH.nil)
    simp only [Act.put, List.setIfInBounds_toArray, List.set_cons_zero, List.set_cons_succ]
    refine wpAnyH_done (by kernel_rfl) ?_ _
    have oE := mine_put (F := F) (x := pp) mV
    have kHE := (Below.heap_setCell wa ⟨gv, F, none⟩ (.int .i64 pp) w1.heap.size (by simp; omega)).trans kH
    have kRE := (Below.heap_setCell wa ⟨gv, F, none⟩ (.int .i64 pp) w.heap.size (by simp; omega)).trans kR
    have hCE : Dr.Cur (wa.setCell ⟨gv, F, none⟩ (.int .i64 pp)) g a b off cap c := Dr.cur_keep (B := gv) hC (fun k hk => Below.heap_setCell wa ⟨gv, F, none⟩ (.int .i64 pp) k (by simp; omega)) hgH (hbl.imp id (fun q => by omega))
    have hOE : Mk.Only g w (wa.setCell ⟨gv, F, none⟩ (.int .i64 pp)) := Dr.only_set hON (by omega)
    generalize wa.setCell ⟨gv, F, none⟩ (.int .i64 pp) = wE at *
    have e1 := Hh.one kHE
    have e2 := Hh.one kRE
    have e3 := Bl.free kRE 0
    go_wp2
    exact bodyPost_ret (v := .agg #[.slice (some ⟨gv, 0, none⟩) 8 8]) (by simp [results, Try.results73, go_sem, Hh.one (block_set1 kRE)]) rfl ⟨gv, 8, (l.set F pp), by rw [List.length_set, hl8], own_mine (mine_of oE (Below.heap_setCell _ _ _ _ (by simp; omega))), by omega, Dr.cur_keep (B := w.heap.size) hCE (fun k hk => Below.heap_setCell _ _ _ k (by simp; omega)) hg hbl, Dr.only_set hOE (Nat.le_refl _)⟩
  · exact bodyPost_ret (v := .agg #[.slice (some ⟨gv, 0, none⟩) 8 8]) (by simp [results, Try.results73, go_sem, Hh.one (block_set1 kR)]) rfl ⟨gv, 8, l, by rw [hl8], own_mine (mine_of mV (Below.heap_setCell _ _ _ _ (by simp; omega))), by omega, Dr.cur_keep (B := w.heap.size) hC (fun k hk => Below.heap_setCell _ _ _ k (by simp; omega)) hg hbl, Dr.only_set hON (Nat.le_refl _)⟩

end Go.Proofs.Ytkakdldhinimoaa.Yv

namespace Go.Proofs.Ytkakdldhinimoaa.Yw
set_option maxRecDepth 8000
set_option linter.unusedSimpArgs false
set_option linter.unusedVariables false
open Go Go.RowKit
open Num Pl Hr Hh Pq Ht Yh Yl Yu Yv

theorem hasN_mono {w : World} {B B' : Nat} {v : Value} {l : List Int} (h : HasN w B v l) (hB : B' ≤ B) : HasN w B' v l := by
  refine ⟨⟨h.1.1, ?_⟩, h.2⟩
  rcases h.1.2 with ⟨e1, e2⟩ | ⟨g, cap, cur, e1, hb, hg, rest⟩
  · exact .inl ⟨e1, e2⟩
  · exact .inr ⟨g, cap, cur, e1, Nat.le_trans hB hb, hg, rest⟩
theorem hasN_keep {w w' : World} {B : Nat} {v : Value} {l : List Int} (h : HasN w B v l) (hk : ∀ k, B ≤ k → k < w.heap.size → w'.heap[k]? = w.heap[k]?) : HasN w' B v l := by
  refine ⟨⟨h.1.1, ?_⟩, h.2⟩
  rcases h.1.2 with ⟨e1, e2⟩ | ⟨g, cap, cur, e1, hb, hg, rest⟩
  · exact .inl ⟨e1, e2⟩
  · exact .inr ⟨g, cap, cur, e1, hb, (hk g hb (Array.getElem?_eq_some_iff.1 hg).1).trans hg, rest⟩
theorem hasN_only {w w' : World} {B g : Nat} {v : Value} {l : List Int} (h : HasN w B v l) (ho : Mk.Only g w w') (hg : g < B) : HasN w' B v l :=
  hasN_keep h fun k hk hk' => ho.block k hk' (by simp; omega)
theorem cur_app {w1 w2 : World} {B g b off cap : Nat} {a : Option Addr} {c : List Int} {v : Value} {l : List Int} (hC : Dr.Cur w1 g a b off cap c) (h : HasN w1 B v l) (hg : w1.grownBy w2 v.ownBlock) (h1 : g < B) (h2 : c.length = 0 ∨ b < B) (h3 : B ≤ w1.heap.size) : Dr.Cur w2 g a b off cap c :=
  Dr.cur_keep (B := B) hC (fun q hq => hg.block q (by omega) (fun e => by have := (h.1.lt q e.symm).1; omega)) h1 h2
theorem only_app {w w1 w2 : World} {B g : Nat} {v : Value} {l : List Int} (hO : Mk.Only g w w1) (h : HasN w1 B v l) (hg : w1.grownBy w2 v.ownBlock) (hB : w.heap.size ≤ B) : Mk.Only g w w2 :=
  Dr.only_grown hO hg (fun q hq => by have := (h.1.lt q hq).1; omega)

/-- A row of integers is handed back, in memory of the call's own, and the cursor goes on. -/
def RowD (n : Nat) (w : World) (g : Nat) (a : Option Addr) (b off cap : Nat) (c : List Int) (e : Ending) (w' : World) : Prop :=
  ∃ v l, e = .returned v ∧ HasN w' w.heap.size v l ∧ l.length ≤ n ∧ Dr.Cur w' g a b off cap c ∧ Mk.Only g w w'

set_option maxHeartbeats 4000000 in
theorem ports_any (g : Nat) (a : Option Addr) (b off cap : Nat) (c : List Int) (w : World) (h : Dr.Cur w g a b off cap c) :
    Calls Try.prog 104 #[.pointer (some ⟨g, 0, none⟩)] w (RowD 6 w g a b off cap c) := by
  have hg := Dr.cur_lt h
  have hbl := Dr.rd_lt h.rd
  go_enter Try.func104, Try.ntmps104
  go_wp2_with (go_at_call 88; refine (Dr.below_any _ _ _ _ _ _ 4 _ h (by omega) (by omega)).mono ?_; rintro e w1 ⟨x, rfl, x0, x1, hC1, hO1⟩; clear h)
  have z1 := hO1.size
  have own1 := hasN_mono (own_emptyN w1) z1
  have hC2 := Dr.cur_alloc hC1 (.cells #[] 3)
  have hO2 := Dr.only_alloc hO1 (.cells #[] 3)
  have z2 : w.heap.size ≤ (w1.alloc (.cells #[] 3)).heap.size := by simp; omega
  generalize w1.alloc (.cells #[] 3) = w2 at *
  clear hC1 hO1
  go_loopw [4, 5] (fun v p wr => ∃ (k : Nat) (l : List Int), (k : Int) ≤ 2 + x ∧ 1 ≤ k ∧ p = .int .i64 k ∧ HasN wr w.heap.size v l ∧ l.length ≤ k - 1 ∧ Dr.Cur wr g a b off cap c ∧ Mk.Only g w wr) (fun _ p _ => 10 - (intOf p).toNat)
  case atStart => exact ⟨1, [], by omega, by omega, rfl, own1, by simp, hC2, hO2⟩
  case round =>
    obtain ⟨k, l, hk, hk1, rfl, own, hl, hC, hO⟩ := hrel
    clear own1 hC2 hO2
    have zr := hO.size
    by_cases hle : (k : Int) ≤ 1 + x
    · go_wp2_with (first | (go_at_call 88; refine (Dr.below_any _ _ _ _ _ _ 6 _ hC (by omega) (by omega)).mono ?_; rintro e w3 ⟨y, rfl, y0, y1, hC', hO'⟩; clear hC; have own3 := hasN_only own hO' (by omega); clear own; replace hO := Dr.only_trans hO hO'; have z3 := hO.size; clear hO'; have own4 := Yt.hasN_alloc own3 (.cells #[.int .i64 k] 3); have r4 := Yt.rd_one w3 k; have hC4 := Dr.cur_alloc hC' (.cells #[.int .i64 k] 3); have hO4 := Dr.only_alloc hO (.cells #[.int .i64 k] 3)) | (at_builtin; refine wpList_appN rfl (.tmp 18) (.tmp 20) rfl w.heap.size _ l [(k : Int)] rfl own4 ⟨w3.heap.size, 0, none⟩ w3.heap.size 0 1 rfl r4 (by simp; omega) (by simp; omega) ?_; intro v7 w7 hown7 hg7))
      · have hC7 := cur_app hC4 own4 hg7 hg hbl (by simp; omega)
        have hO7 := only_app hO4 own4 hg7 (Nat.le_refl _)
        go_roundw
        case rel => exact ⟨k + 1, l ++ [(k : Int)], by omega, by omega, by go_num, hown7, by simp; omega, hC7, hO7⟩
        case measure => simp [intOf]; omega
      · go_roundw
        case rel => exact ⟨k + 1, l, by omega, by omega, by go_num, own3, by omega, hC', hO⟩
        case measure => simp [intOf]; omega
    · go_wp2_with (first | (go_at_call 88; refine (Dr.below_any _ _ _ _ _ _ 9 _ hC (by omega) (by omega)).mono ?_; rintro e w3 ⟨y, rfl, y0, y1, hC', hO'⟩; clear hC; have own3 := hasN_only own hO' (by omega); clear own; replace hO := Dr.only_trans hO hO'; have z3 := hO.size; clear hO'; have own4 := Yt.hasN_alloc own3 (.cells #[.int .i64 255] 3); have r4 := Yt.rd_one w3 255; have hC4 := Dr.cur_alloc hC' (.cells #[.int .i64 255] 3); have hO4 := Dr.only_alloc hO (.cells #[.int .i64 255] 3)) | (at_builtin; refine wpList_appN rfl (.tmp 25) (.tmp 26) rfl w.heap.size _ l [255] rfl own4 ⟨w3.heap.size, 0, none⟩ w3.heap.size 0 1 rfl r4 (by simp; omega) (by simp; omega) ?_; intro v7 w7 hown7 hg7))
      · go_ret
        exact ⟨_, _, rfl, hown7, by simp; omega, cur_app hC4 own4 hg7 hg hbl (by simp; omega), only_app hO4 own4 hg7 (Nat.le_refl _)⟩
      · go_ret
        exact ⟨_, _, rfl, own3, by omega, hC', hO⟩

def lit9 : List Int := [1, 2, 3, 4, 5, 6, 7, 8, 9]
theorem hasN_lit {w : World} {B n : Nat} (hB : B ≤ w.heap.size) (hn : n ≤ 9) : HasN (w.alloc (.cells #[.int .i64 1, .int .i64 2, .int .i64 3, .int .i64 4, .int .i64 5, .int .i64 6, .int .i64 7, .int .i64 8, .int .i64 9] 3)) B (.slice (some ⟨w.heap.size, 0, none⟩) n 9) (lit9.take n) := by
  have hl : (lit9.take n).length = n := by simp [lit9]; omega
  refine ⟨⟨by simp, .inr ⟨w.heap.size, 9, _, by rw [hl], hB, at_new rfl, by rw [hl]; exact hn, by decide, by rfl, ?_⟩⟩, by simp⟩
  rw [hl]
  have e : n = 0 ∨ n = 1 ∨ n = 2 ∨ n = 3 ∨ n = 4 ∨ n = 5 ∨ n = 6 ∨ n = 7 ∨ n = 8 ∨ n = 9 := by omega
  rcases e with rfl | rfl | rfl | rfl | rfl | rfl | rfl | rfl | rfl | rfl <;> rfl

theorem hasN_one {w : World} {B : Nat} (hB : B ≤ w.heap.size) (x : Int) : HasN (w.alloc (.cells #[.int .i64 x] 3)) B (.slice (some ⟨w.heap.size, 0, none⟩) 1 1) [x] :=
  ⟨⟨by simp, .inr ⟨w.heap.size, 1, _, rfl, hB, at_new rfl, by simp, by decide, rfl, rfl⟩⟩, by simp⟩
theorem rd_hasN {w : World} {B g c : Nat} {l : List Int} (h : HasN w B (.slice (some ⟨g, 0, none⟩) l.length c) l) (hs : l.length ≤ 4194304) : Rd w (some ⟨g, 0, none⟩) g 0 l := by
  obtain ⟨g', c', e, _, o, _⟩ := own_has h hs
  injection e with e1 e2 e3
  injection e1 with e1
  injection e1 with e1
  subst e1
  exact o.rd

set_option maxHeartbeats 4000000 in
theorem anyPorts_any (g : Nat) (a : Option Addr) (b off cap : Nat) (c : List Int) (w : World) (h : Dr.Cur w g a b off cap c) :
    Calls Try.prog 74 #[.pointer (some ⟨g, 0, none⟩)] w (RowD 9 w g a b off cap c) := by
  have hg := Dr.cur_lt h
  have hbl := Dr.rd_lt h.rd
  go_enter Try.func74, Try.ntmps74
  have t1 : True := trivial
  go_wp2_with (first | (go_at_call 104; refine (ports_any _ _ _ _ _ _ _ h).mono ?_; rintro e w1 ⟨v, l, rfl, own1, hl, hC1, hO1⟩; clear h; obtain ⟨gl, cl, rfl, hgl, _, hcl⟩ := hasN_form own1 (by omega)) | (go_at_call 88; clear t1; refine (Dr.below_any _ _ _ _ _ _ 12 _ hC1 (by omega) (by omega)).mono ?_; rintro e w2 ⟨k, rfl, k0, k1, hC, hO2⟩; have own := hasN_only own1 hO2 (by omega); have hO := Dr.only_trans hO1 hO2; have zr := hO.size; clear own1 hC1 hO1 hO2; have ownL := hasN_one zr 3; have rL := rd_hasN (Yt.hasN_alloc own (.cells #[.int .i64 3] 3)) (by omega); have hCL := Dr.cur_alloc hC (.cells #[.int .i64 3] 3); have hOL := Dr.only_alloc hO (.cells #[.int .i64 3] 3); have hC9 := Dr.cur_alloc hC (.cells #[.int .i64 1, .int .i64 2, .int .i64 3, .int .i64 4, .int .i64 5, .int .i64 6, .int .i64 7, .int .i64 8, .int .i64 9] 3); have hO9 := Dr.only_alloc hO (.cells #[.int .i64 1, .int .i64 2, .int .i64 3, .int .i64 4, .int .i64 5, .int .i64 6, .int .i64 7, .int .i64 8, .int .i64 9] 3)) | (go_at_call 102; obtain rfl : k = 0 := eq_of_beq (by assumption); clear ownL rL hCL hOL hC9 hO9; refine (Dr.raw_any _ _ _ _ _ _ _ hC).mono ?_; rintro e w3 ⟨y, rfl, hC', hO'⟩; clear hC; have own3 := hasN_only own hO' (by omega); clear own; replace hO := Dr.only_trans hO hO'; have z3 := hO.size; clear hO'; have own4 := Yt.hasN_alloc own3 (.cells #[.int .i64 y] 3); have r4 := Yt.rd_one w3 y; have hC4 := Dr.cur_alloc hC' (.cells #[.int .i64 y] 3); have hO4 := Dr.only_alloc hO (.cells #[.int .i64 y] 3)) | (at_builtin; refine wpList_appN rfl (.tmp 11) (.tmp 14) rfl w.heap.size _ l [y] rfl own4 ⟨w3.heap.size, 0, none⟩ w3.heap.size 0 1 rfl r4 (by simp; omega) (by simp; omega) ?_; intro v7 w7 hown7 hg7) | (at_builtin; obtain rfl : k = 1 := eq_of_beq (by assumption); refine wpList_appN rfl (.tmp 18) (.tmp 19) rfl w.heap.size _ [3] l rfl ownL ⟨gl, 0, none⟩ gl 0 cl rfl rL (by simp; omega) (by simp; omega) ?_; intro v7 w7 hown7 hg7) | (go_at_call 88; obtain rfl : k = 2 := eq_of_beq (by assumption); clear ownL rL hCL hOL hC; refine (Dr.below_any _ _ _ _ _ _ 2 _ hC9 (by omega) (by omega)).mono ?_; rintro e w3 ⟨y, rfl, y0, y1, hC, hO'⟩; clear hC9; obtain ⟨Y, hY⟩ : ∃ Y : Nat, y = Y := ⟨y.toNat, by omega⟩; subst hY; have ownY := hasN_only (hasN_lit (n := 8 + Y) zr (by omega)) hO' (by omega); replace hO9 := Dr.only_trans hO9 hO'; clear hO'; have hY9 : 8 + (Y : Int) ≤ 9 := (by omega); have hYN : (8 + (Y : Int)).toNat = 8 + Y := (by omega)))
  · go_ret
    exact ⟨_, _, rfl, hown7, by simp; omega, cur_app hC4 own4 hg7 hg hbl (by simp; omega), only_app hO4 own4 hg7 (Nat.le_refl _)⟩
  · go_ret
    exact ⟨_, _, rfl, hown7, by simp; omega, cur_app hCL ownL hg7 hg hbl (by simp; omega), only_app hOL ownL hg7 (Nat.le_refl _)⟩
  · go_ret
    exact ⟨_, _, rfl, ownY, by simp [lit9] <;> omega, hC, hO9⟩
  · go_ret
    exact ⟨_, _, rfl, own, by omega, hC, hO⟩

end Go.Proofs.Ytkakdldhinimoaa.Yw

namespace Go.Proofs.Ytkakdldhinimoaa.Yx
set_option maxRecDepth 8000
set_option linter.unusedSimpArgs false
set_option linter.unusedVariables false
open Go Go.RowKit
open Num Pl Hr Hh Pq Ht Yh Yl Yu Yv Yw

abbrev A3 := Yb.A3
def cellsA (x : A3) : List Value := [.int .i64 x.1, .int .i64 x.2.1, .int .i64 x.2.2]
def flatA (l : List A3) : List Value := l.flatMap cellsA
theorem flatA_get : ∀ (l : List A3) (i : Nat), i < l.length → (flatA l)[i * 3]? = some (.int .i64 (l.getD i Yb.z3).1) ∧ (flatA l)[i * 3 + 1]? = some (.int .i64 (l.getD i Yb.z3).2.1) ∧ (flatA l)[i * 3 + 2]? = some (.int .i64 (l.getD i Yb.z3).2.2)
  | [], i, h => by simp at h
  | x :: l, 0, h => by simp [flatA, cellsA, List.getD]
  | x :: l, i + 1, h => by
    have q := flatA_get l i (by simpa using h)
    have e0 : (i + 1) * 3 = i * 3 + 1 + 1 + 1 := by omega
    have e : flatA (x :: l) = .int .i64 x.1 :: .int .i64 x.2.1 :: .int .i64 x.2.2 :: flatA l := by simp [flatA, cellsA]
    rw [e0, e]
    exact ⟨q.1, q.2.1, q.2.2⟩
theorem info76 : (Try.prog.info? 76).map (fun i => (i.zero, i.size, i.bytes)) = some (some (.agg #[.int .i64 0, .int .i64 0, .int .i64 0]), 3, 24) := by kernel_rfl

/-- A slice of the call's own, not nil, that holds the actions l. -/
def HasA (w : World) (B : Nat) (v : Value) (l : List A3) : Prop := w.ownsRow B 76 3 v l.length (flatA l) ∧ v ≠ .slice none 0 0
theorem hasA_mono {w : World} {B B' : Nat} {v : Value} {l : List A3} (h : HasA w B v l) (hB : B' ≤ B) : HasA w B' v l := by
  refine ⟨⟨h.1.1, ?_⟩, h.2⟩
  rcases h.1.2 with ⟨e1, e2⟩ | ⟨g, cap, cur, e1, hb, hg, rest⟩
  · exact .inl ⟨e1, e2⟩
  · exact .inr ⟨g, cap, cur, e1, Nat.le_trans hB hb, hg, rest⟩
theorem hasA_keep {w w' : World} {B : Nat} {v : Value} {l : List A3} (h : HasA w B v l) (hk : ∀ k, B ≤ k → k < w.heap.size → w'.heap[k]? = w.heap[k]?) : HasA w' B v l := by
  refine ⟨⟨h.1.1, ?_⟩, h.2⟩
  rcases h.1.2 with ⟨e1, e2⟩ | ⟨g, cap, cur, e1, hb, hg, rest⟩
  · exact .inl ⟨e1, e2⟩
  · exact .inr ⟨g, cap, cur, e1, hb, (hk g hb (Array.getElem?_eq_some_iff.1 hg).1).trans hg, rest⟩
theorem hasA_only {w w' : World} {B g : Nat} {v : Value} {l : List A3} (h : HasA w B v l) (ho : Mk.Only g w w') (hg : g < B) : HasA w' B v l :=
  hasA_keep h fun k hk hk' => ho.block k hk' (by simp; omega)
theorem hasA_alloc {w : World} {B : Nat} {v : Value} {l : List A3} (h : HasA w B v l) (o : Obj) : HasA (w.alloc o) B v l := ⟨h.1.alloc o, h.2⟩
theorem curA_app {w1 w2 : World} {B g b off cap : Nat} {a : Option Addr} {c : List Int} {v : Value} {l : List A3} (hC : Dr.Cur w1 g a b off cap c) (h : HasA w1 B v l) (hg : w1.grownBy w2 v.ownBlock) (h1 : g < B) (h2 : c.length = 0 ∨ b < B) (h3 : B ≤ w1.heap.size) : Dr.Cur w2 g a b off cap c :=
  Dr.cur_keep (B := B) hC (fun q hq => hg.block q (by omega) (fun e => by have := (h.1.lt q e.symm).1; omega)) h1 h2
theorem onlyA_app {w w1 w2 : World} {B g : Nat} {v : Value} {l : List A3} (hO : Mk.Only g w w1) (h : HasA w1 B v l) (hg : w1.grownBy w2 v.ownBlock) (hB : w.heap.size ≤ B) : Mk.Only g w w2 :=
  Dr.only_grown hO hg (fun q hq => by have := (h.1.lt q hq).1; omega)
theorem own_emptyA (w : World) : HasA (w.alloc (.cells #[] 76)) w.heap.size (.slice (some ⟨w.heap.size, 0, none⟩) 0 0) [] := ⟨by simpa [flatA] using World.ownsRow_made (size := 3) (e := 76) w #[] 0 (Nat.le_refl _) (Nat.zero_le _) rfl, by simp⟩
theorem hasA_form {w : World} {B : Nat} {v : Value} {l : List A3} (h : HasA w B v l) (hs : l.length ≤ 4194304) :
    ∃ g cap, v = .slice (some ⟨g, 0, none⟩) l.length cap ∧ B ≤ g ∧ Yb.Rd w (some ⟨g, 0, none⟩) g 0 l ∧ l.length ≤ cap := by
  rcases h.1.2 with ⟨rfl, _⟩ | ⟨g, cap, cur, rfl, hb, hh, hn, _, _, ht⟩
  · exact absurd rfl h.2
  · refine ⟨g, cap, rfl, hb, ⟨fun _ => rfl, fun i hi => ?_, hs⟩, hn⟩
    obtain ⟨q0, q1, q2⟩ := flatA_get l i hi
    have p0 := h.1.cells (g := g) rfl _ _ q0
    have p1 := h.1.cells (g := g) rfl _ _ q1
    have p2 := h.1.cells (g := g) rfl _ _ q2
    rw [Yb.add_eq] at p0 p1 p2
    exact ⟨p0, p1, p2⟩
theorem wpList_appA {ops : Array Oper} {rest : List Oper} {o : Oper} {a : Act} {w : World} {Q : Exit → Act → World → Prop} (hgd : o.guard = none) (s x : Operand)
    (ho : o.op = .call { callee := .builtin .append, args := #[s, x], argTypes := #[29, 29] }) (base : Nat) (v : Value) (l : List A3) (m : A3) (hs : a.eval s = v) (hown : HasA w base v l)
    (T c : Nat) (hx : a.eval x = .slice (some ⟨T, 0, none⟩) 1 c) (hT : w.heap[T]? = some (.cells #[.int .i64 m.1, .int .i64 m.2.1, .int .i64 m.2.2] 76 (0, 0))) (hb : l.length ≤ 4194304) (hbase : base ≤ w.heap.size)
    (h : ∀ v' w', HasA w' base v' (l ++ [m]) → w.grownBy w' v.ownBlock → wpList Try.prog ops Q rest (a.put o.dst v') w') : wpList Try.prog ops Q (o :: rest) a w := by
  obtain ⟨i0, hi, hz0, hz1, hz2⟩ := info_parts info76
  refine wpList_append_own _ hgd s x 29 ho base 76 i0 (.agg #[.int .i64 0, .int .i64 0, .int .i64 0]) 3 24 Try.underlying29 hi hz0 hz1 hz2 rfl (by decide) v l.length (flatA l) hs hown.1 ⟨T, 0, none⟩ 1 c (cellsA m) hx rfl (by
      intro j u hj
      have hjl : j < 3 := by have := (List.getElem?_eq_some_iff.1 hj).1; simpa [cellsA] using this
      rw [Yb.add_eq, Nat.zero_add]
      match j, hjl with
      | 0, _ => simp [cellsA] at hj; subst hj; simp [World.cell?, hT]
      | 1, _ => simp [cellsA] at hj; subst hj; simp [World.cell?, hT]
      | 2, _ => simp [cellsA] at hj; subst hj; simp [World.cell?, hT]) (by intro u hu; simp [cellsA] at hu; rcases hu with rfl | rfl | rfl <;> rfl) (by unfold maxLen; omega) (by omega) hbase ?_
  intro v' w' h1 h2 h3
  refine h v' w' ⟨by have e : flatA (l ++ [m]) = flatA l ++ cellsA m := (by simp [flatA]); rw [e]; simpa using h1, fun e => ?_⟩ h2
  exact hown.2 (h3.1 e).1

/-- A row of actions is handed back, in memory of the call's own, and the cursor goes on. -/
def ActD (w : World) (g : Nat) (a : Option Addr) (b off cap : Nat) (c : List Int) (e : Ending) (w' : World) : Prop :=
  ∃ v l, e = .returned v ∧ HasA w' w.heap.size v l ∧ l.length ≤ 13 ∧ Dr.Cur w' g a b off cap c ∧ Mk.Only g w w'

end Go.Proofs.Ytkakdldhinimoaa.Yx

namespace Go.Proofs.Ytkakdldhinimoaa.Yy
set_option maxRecDepth 8000
set_option linter.unusedSimpArgs false
set_option linter.unusedVariables false
open Go Go.RowKit
open Num Pl Hr Hh Pq Ht Yh Yl Yu Yv Yw Yx

theorem cells3 {w : World} {g : Nat} {x0 x1 x2 : Value} {t : TypeId} (k : w.heap[g]? = some (.cells #[x0, x1, x2] t (0, 0))) : w.cell? ⟨g, 0, none⟩ = some x0 ∧ w.cell? ⟨g, 1, none⟩ = some x1 ∧ w.cell? ⟨g, 2, none⟩ = some x2 := by
  simp [World.cell?, k]
theorem set31 {w : World} {g : Nat} {x0 x1 x2 u : Value} {t : TypeId} (k : w.heap[g]? = some (.cells #[x0, x1, x2] t (0, 0))) : (w.setCell ⟨g, 1, none⟩ u).heap[g]? = some (.cells #[x0, u, x2] t (0, 0)) := by
  simp [World.setCell, Array.getElem?_modify, k]
theorem set32 {w : World} {g : Nat} {x0 x1 x2 u : Value} {t : TypeId} (k : w.heap[g]? = some (.cells #[x0, x1, x2] t (0, 0))) : (w.setCell ⟨g, 2, none⟩ u).heap[g]? = some (.cells #[x0, x1, u] t (0, 0)) := by
  simp [World.setCell, Array.getElem?_modify, k]
theorem set30 {w : World} {g : Nat} {x0 x1 x2 u : Value} {t : TypeId} (k : w.heap[g]? = some (.cells #[x0, x1, x2] t (0, 0))) : (w.setCell ⟨g, 0, none⟩ u).heap[g]? = some (.cells #[u, x1, x2] t (0, 0)) := by
  simp [World.setCell, Array.getElem?_modify, k]
def lenOf : Value → Nat
  | .slice _ n _ => n
  | _ => 0

set_option maxHeartbeats 8000000 in
theorem acts_any (g : Nat) (a : Option Addr) (b off cap : Nat) (c : List Int) (w : World) (h : Dr.Cur w g a b off cap c) :
    Calls Try.prog 101 #[.pointer (some ⟨g, 0, none⟩)] w (ActD w g a b off cap c) := by
  have hg := Dr.cur_lt h
  have hbl := Dr.rd_lt h.rd
  have own0 := own_emptyA w
  have hC0 := Dr.cur_alloc h (.cells #[] 76)
  have hO0 := Dr.only_alloc (Mk.Only.refl g w) (.cells #[] 76)
  clear h
  go_enter Try.func101, Try.ntmps101
  go_wp2_with (go_at_call 88; refine (Dr.below_any _ _ _ _ _ _ 5 _ hC0 (by omega) (by omega)).mono ?_; rintro e w1 ⟨n, rfl, n0, n1, hC1, hO1⟩; have own1 := hasA_only own0 hO1 (by omega); replace hO1 := Dr.only_trans hO0 hO1; clear hC0 hO0 own0)
  obtain ⟨M, hM⟩ : ∃ M : Nat, n = M := ⟨n.toNat, by omega⟩
  subst hM
  go_loopw [3, 4, 5, 6] (fun v n _ _ wr => ∃ (k : Nat) (l : List A3), l.length + k ≤ 4 ∧ n = .int .i64 k ∧ HasA wr w.heap.size v l ∧ Dr.Cur wr g a b off cap c ∧ Mk.Only g w wr) (fun _ n _ _ _ => (intOf n).toNat)
  case atStart => exact ⟨M, [], by simp; omega, rfl, own1, hC1, hO1⟩
  case round =>
    obtain ⟨k, l, hk, rfl, own, hC, hO⟩ := hrel
    clear own1 hC1 hO1
    have zr := hO.size
    by_cases hk0 : 0 < k
    · have hkz : 0 < (k : Int) := by omega
      obtain ⟨K, hK⟩ : ∃ K, k = K + 1 := ⟨k - 1, by omega⟩
      have t1 : True := trivial
      go_wp2_with (first | (go_at_call 88; clear t1; refine (Dr.below_any _ _ _ _ _ _ 5 _ hC (by omega) (by omega)).mono ?_; rintro e w3 ⟨x, rfl, x0, x1, hC3, hO'⟩; have own3 := hasA_only own hO' (by omega); replace hO := Dr.only_trans hO hO'; clear hC own hO'; have z3 := hO.size; have hC4 := Dr.cur_alloc hC3 (.cells #[.int .i64 (1 + x), .int .i64 0, .int .i64 0] 76); have hO4 := Dr.only_alloc (Mk.Only.refl g w3) (.cells #[.int .i64 (1 + x), .int .i64 0, .int .i64 0] 76); have kA : (w3.alloc (.cells #[.int .i64 (1 + x), .int .i64 0, .int .i64 0] 76)).heap[w3.heap.size]? = some (.cells #[.int .i64 (1 + x), .int .i64 0, .int .i64 0] 76 (0, 0)) := at_new rfl; have hC5 := Dr.cur_alloc hC4 (.cells #[.int .i64 (1 + x), .int .i64 0, .int .i64 0] 76); have hO5 := Dr.only_alloc hO4 (.cells #[.int .i64 (1 + x), .int .i64 0, .int .i64 0] 76); have own5 := hasA_only own3 hO5 (by omega); have kT : ((w3.alloc (.cells #[.int .i64 (1 + x), .int .i64 0, .int .i64 0] 76)).alloc (.cells #[.int .i64 (1 + x), .int .i64 0, .int .i64 0] 76)).heap[w3.heap.size + 1]? = some (.cells #[.int .i64 (1 + x), .int .i64 0, .int .i64 0] 76 (0, 0)) := at_new (by simp)) | (at_builtin; refine wpList_appA rfl (.tmp 34) (.tmp 36) rfl w.heap.size _ l (1 + x, 0, 0) rfl own5 (w3.heap.size + 1) 1 rfl kT (by omega) (by simp; omega) ?_; intro v7 w7 hown7 hg7))
      · obtain rfl : x = 0 := by have ex := eq_of_beq (by assumption : (1 + x == 1) = true); omega
        clear hC5 hO5 own5 kT
        simp only [Int.add_zero] at hC4 hO4 kA ⊢
        go_wp2_with (first | (go_at_call 88; refine (Dr.below_any _ _ _ _ _ _ 5 _ hC4 (by omega) (by omega)).mono ?_; rintro e w4 ⟨y, rfl, y0, y1, hC, hO'⟩; replace kA := (hO'.block _ (by simp) (by simp; omega)).trans kA; replace hO4 := Dr.only_trans hO4 hO'; clear hO' hC4; have z4 := hO4.size; obtain ⟨q0, q1, q2⟩ := cells3 kA; have ff := Bl.free kA; have hC6 : Dr.Cur ((w4.setCell ⟨w3.heap.size, 1, none⟩ (.int .i64 (1 + y))).alloc (.cells #[.int .i64 1, .int .i64 (1 + y), .int .i64 0] 76)) g a b off cap c := Dr.cur_alloc (Dr.cur_keep (B := w.heap.size) hC (fun k hk => Below.heap_setCell _ _ _ k (by simp; omega)) hg hbl) _; have hO6 : Mk.Only g w3 ((w4.setCell ⟨w3.heap.size, 1, none⟩ (.int .i64 (1 + y))).alloc (.cells #[.int .i64 1, .int .i64 (1 + y), .int .i64 0] 76)) := Dr.only_alloc (Dr.only_set hO4 (Nat.le_refl _)) _; have own6 := hasA_only own3 hO6 (by omega); have kT : ((w4.setCell ⟨w3.heap.size, 1, none⟩ (.int .i64 (1 + y))).alloc (.cells #[.int .i64 1, .int .i64 (1 + y), .int .i64 0] 76)).heap[w4.heap.size]? = some (.cells #[.int .i64 1, .int .i64 (1 + y), .int .i64 0] 76 (0, 0)) := at_new (by simp)) | (at_builtin; refine wpList_appA rfl (.tmp 34) (.tmp 36) rfl w.heap.size _ l (1, 1 + y, 0) rfl own6 w4.heap.size 1 rfl kT (by omega) (by simp; omega) ?_; intro v7 w7 hown7 hg7))
        have hC7 := curA_app hC6 own6 hg7 hg hbl (by simp; omega)
        have hO7 := onlyA_app (Dr.only_trans hO hO6) own6 hg7 (Nat.le_refl _)
        go_roundw
        case rel => exact ⟨K, _, by simp; omega, by first | go_num | (congr 1; omega), hown7, hC7, hO7⟩
        case measure => simp [intOf]; omega
      · obtain rfl : x = 2 := by have ex := eq_of_beq (by assumption : (1 + x == 3) = true); omega
        clear hC5 hO5 own5 kT
        simp only [show (1 : Int) + 2 = 3 from rfl] at hC4 hO4 kA ⊢
        go_wp2_with (first | (go_at_call 88; refine (Dr.below_any _ _ _ _ _ _ 2 _ hC4 (by omega) (by omega)).mono ?_; rintro e w4 ⟨y, rfl, y0, y1, hC, hO'⟩; replace kA := (hO'.block _ (by simp) (by simp; omega)).trans kA; replace hO4 := Dr.only_trans hO4 hO'; clear hO' hC4; have z4 := hO4.size; obtain ⟨q0, q1, q2⟩ := cells3 kA; have ff := Bl.free kA; have hC5 : Dr.Cur (w4.setCell ⟨w3.heap.size, 1, none⟩ (.int .i64 (1 + y))) g a b off cap c := Dr.cur_keep (B := w.heap.size) hC (fun k hk => Below.heap_setCell _ _ _ k (by simp; omega)) hg hbl; have hO5 : Mk.Only g w3 (w4.setCell ⟨w3.heap.size, 1, none⟩ (.int .i64 (1 + y))) := Dr.only_set hO4 (Nat.le_refl _); have kA5 := set31 (u := .int .i64 (1 + y)) kA; have z5 : w3.heap.size < (w4.setCell ⟨w3.heap.size, 1, none⟩ (.int .i64 (1 + y))).heap.size := (Array.getElem?_eq_some_iff.1 kA5).1) | (go_at_call 127; refine (Dr.num6_any _ _ _ _ _ _ _ hC5).mono ?_; rintro e w5 ⟨z, rfl, zz0, zz1, hC', hO'⟩; clear q0 q1 q2 ff kA hC hC5; have kA := (hO'.block _ z5 (by simp; omega)).trans kA5; have hO6' := Dr.only_trans hO5 hO'; clear hO' hO5 kA5; obtain ⟨q0, q1, q2⟩ := cells3 kA; have ff := Bl.free kA; have z6 := hO6'.size; have hC6 : Dr.Cur ((w5.setCell ⟨w3.heap.size, 2, none⟩ (.int .i64 z)).alloc (.cells #[.int .i64 3, .int .i64 (1 + y), .int .i64 z] 76)) g a b off cap c := Dr.cur_alloc (Dr.cur_keep (B := w.heap.size) hC' (fun k hk => Below.heap_setCell _ _ _ k (by simp; omega)) hg hbl) _; have hO6 : Mk.Only g w3 ((w5.setCell ⟨w3.heap.size, 2, none⟩ (.int .i64 z)).alloc (.cells #[.int .i64 3, .int .i64 (1 + y), .int .i64 z] 76)) := Dr.only_alloc (Dr.only_set hO6' (Nat.le_refl _)) _; have own6 := hasA_only own3 hO6 (by omega); have kT : ((w5.setCell ⟨w3.heap.size, 2, none⟩ (.int .i64 z)).alloc (.cells #[.int .i64 3, .int .i64 (1 + y), .int .i64 z] 76)).heap[w5.heap.size]? = some (.cells #[.int .i64 3, .int .i64 (1 + y), .int .i64 z] 76 (0, 0)) := at_new (by simp)) | (at_builtin; refine wpList_appA rfl (.tmp 34) (.tmp 36) rfl w.heap.size _ l (3, 1 + y, z) rfl own6 w5.heap.size 1 rfl kT (by omega) (by simp; omega) ?_; intro v7 w7 hown7 hg7))
        have hC7 := curA_app hC6 own6 hg7 hg hbl (by simp; omega)
        have hO7 := onlyA_app (Dr.only_trans hO hO6) own6 hg7 (Nat.le_refl _)
        go_roundw
        case rel => exact ⟨K, _, by simp; omega, by first | go_num | (congr 1; omega), hown7, hC7, hO7⟩
        case measure => simp [intOf]; omega
      · have hC6 := hC5
        have hO6 := hO5
        have own6 := own5
        have hC7 := curA_app hC6 own6 hg7 hg hbl (by simp; omega)
        have hO7 := onlyA_app (Dr.only_trans hO hO6) own6 hg7 (Nat.le_refl _)
        go_roundw
        case rel => exact ⟨K, _, by simp; omega, by first | go_num | (congr 1; omega), hown7, hC7, hO7⟩
        case measure => simp [intOf]; omega
    · obtain rfl : k = 0 := by omega
      have t1 : True := trivial
      go_wp2_with (go_at_call 88; clear t1; refine (Dr.below_any _ _ _ _ _ _ 25 _ hC (by omega) (by omega)).mono ?_; rintro e w3 ⟨x, rfl, x0, x1, hC3, hO'⟩; have own3 := hasA_only own hO' (by omega); replace hO := Dr.only_trans hO hO'; clear hC own hO')
      · have hxt : (x == 0) = true := by assumption
        rw [hxt]
        clear hxt
        go_loopw [3] (fun v wr => ∃ l : List A3, l.length ≤ 13 ∧ HasA wr w.heap.size v l ∧ Dr.Cur wr g a b off cap c ∧ Mk.Only g w wr) (fun v _ => 14 - lenOf v)
        case atStart => exact ⟨l, by omega, own3, hC3, hO⟩
        case round =>
          clear hO own3 hC3
          obtain ⟨l, hl, own, hC, hO⟩ := hrel
          have zr := hO.size
          obtain ⟨gl, cl, rfl, hgl, _, hcl⟩ := hasA_form own (by omega)
          have t2 : True := trivial
          go_wp2_with (first | (go_at_call 88; clear t2; refine (Dr.below_any _ _ _ _ _ _ 2 _ hC (by omega) (by omega)).mono ?_; rintro e w4 ⟨y, rfl, y0, y1, hC4, hO'⟩; have own4 := hasA_only own hO' (by omega); replace hO := Dr.only_trans hO hO'; clear hC own hO'; have z4 := hO.size; have hC6 := Dr.cur_alloc hC4 (.cells #[.int .i64 2, .int .i64 0, .int .i64 0] 76); have hO6 := Dr.only_alloc hO (.cells #[.int .i64 2, .int .i64 0, .int .i64 0] 76); have own6 := hasA_alloc own4 (.cells #[.int .i64 2, .int .i64 0, .int .i64 0] 76); have kT : (w4.alloc (.cells #[.int .i64 2, .int .i64 0, .int .i64 0] 76)).heap[w4.heap.size]? = some (.cells #[.int .i64 2, .int .i64 0, .int .i64 0] 76 (0, 0)) := at_new rfl) | (at_builtin; refine wpList_appA rfl (.tmp 47) (.tmp 49) rfl w.heap.size _ l (2, 0, 0) rfl own6 w4.heap.size 1 rfl kT (by omega) (by simp; omega) ?_; intro v7 w7 hown7 hg7))
          · have hlt : l.length < 13 := by omega
            obtain ⟨g7, c7, rfl, _, _, _⟩ := hasA_form hown7 (by simp; omega)
            have hC7 := curA_app hC6 own6 hg7 hg hbl (by simp; omega)
            have hO7 := onlyA_app hO6 own6 hg7 (Nat.le_refl _)
            go_roundw
            case rel => exact ⟨_, by simp; omega, hown7, hC7, hO7⟩
            case measure => simp [lenOf]; omega
          · go_ret
            exact ⟨_, _, rfl, own4, hl, hC4, hO⟩
      · go_ret
        exact ⟨_, _, rfl, own3, by omega, hC3, hO⟩

end Go.Proofs.Ytkakdldhinimoaa.Yy

namespace Go.Proofs.Ytkakdldhinimoaa.Yz
set_option maxRecDepth 8000
set_option linter.unusedSimpArgs false
set_option linter.unusedVariables false
open Go Go.RowKit
open Num Pl Hr Hh Pq Ht Yh Yl Yu Yv Yw Yx Yy

/-- A row of actions is handed back, in memory of the call's own, and the cursor goes on. -/
def AnyD (w : World) (g : Nat) (a : Option Addr) (b off cap : Nat) (c : List Int) (e : Ending) (w' : World) : Prop :=
  ∃ gl cl l, e = .returned (.slice (some ⟨gl, 0, none⟩) (List.length l) cl) ∧ Yb.Rd w' (some ⟨gl, 0, none⟩) gl 0 l ∧ w.heap.size ≤ gl ∧ gl < w'.heap.size ∧ Dr.Cur w' g a b off cap c ∧ Mk.Only g w w'
theorem hasA_blk {w : World} {B g n cap : Nat} {l : List A3} (h : HasA w B (.slice (some ⟨g, 0, none⟩) n cap) l) : ∃ cur, w.heap[g]? = some (.cells cur 76 (0, 0)) := by
  rcases h.1.2 with ⟨e, _⟩ | ⟨g', cap', cur, e, hb, hh, _⟩
  · simp at e
  · injection e with e1 e2 e3
    injection e1 with e1
    injection e1 with e1
    subst e1
    exact ⟨cur, hh⟩

theorem rd_hasA {w : World} {B g c : Nat} {l : List A3} (h : HasA w B (.slice (some ⟨g, 0, none⟩) l.length c) l) (hs : l.length ≤ 4194304) : Yb.Rd w (some ⟨g, 0, none⟩) g 0 l := by
  obtain ⟨g', c', e, _, o, _⟩ := hasA_form h hs
  injection e with e1 e2 e3
  injection e1 with e1
  injection e1 with e1
  subst e1
  exact o
theorem rd_set3 {w : World} {g I : Nat} {l : List A3} {y0 y1 y2 : Int} (h : Yb.Rd w (some ⟨g, 0, none⟩) g 0 l) (hI : I < l.length) :
    Yb.Rd (((w.setCell ⟨g, I * 3, none⟩ (.int .i64 y0)).setCell ⟨g, I * 3 + 1, none⟩ (.int .i64 y1)).setCell ⟨g, I * 3 + 2, none⟩ (.int .i64 y2)) (some ⟨g, 0, none⟩) g 0 (l.set I (y0, y1, y2)) := by
  refine ⟨fun _ => rfl, fun j hj => ?_, by simpa using h.size⟩
  rw [List.length_set] at hj
  have hc := h.cell j hj
  simp only [Yb.At3, Nat.zero_add] at hc ⊢
  by_cases e : j = I
  · subst e
    have e1 : (l.set j (y0, y1, y2)).getD j Yb.z3 = (y0, y1, y2) := by simp [List.getD, hj]
    rw [e1]
    refine ⟨?_, ?_, ?_⟩
    · rw [World.cell?_setCell_other _ _ _ _ (by simp), World.cell?_setCell_other _ _ _ _ (by simp), World.cell?_setCell_same _ _ _ hc.1]
    · rw [World.cell?_setCell_other _ _ _ _ (by simp), World.cell?_setCell_same _ _ _ (by rw [World.cell?_setCell_other _ _ _ _ (by simp)]; exact hc.2.1)]
    · rw [World.cell?_setCell_same _ _ _ (by rw [World.cell?_setCell_other _ _ _ _ (by simp), World.cell?_setCell_other _ _ _ _ (by simp)]; exact hc.2.2)]
  · have e1 : (l.set I (y0, y1, y2)).getD j Yb.z3 = l.getD j Yb.z3 := by simp [List.getD, List.getElem?_set, Ne.symm e]
    rw [e1]
    refine ⟨?_, ?_, ?_⟩
    · rw [World.cell?_setCell_other _ _ _ _ (by simp <;> omega), World.cell?_setCell_other _ _ _ _ (by simp <;> omega), World.cell?_setCell_other _ _ _ _ (by simp <;> omega)]; exact hc.1
    · rw [World.cell?_setCell_other _ _ _ _ (by simp <;> omega), World.cell?_setCell_other _ _ _ _ (by simp <;> omega), World.cell?_setCell_other _ _ _ _ (by simp <;> omega)]; exact hc.2.1
    · rw [World.cell?_setCell_other _ _ _ _ (by simp <;> omega), World.cell?_setCell_other _ _ _ _ (by simp <;> omega), World.cell?_setCell_other _ _ _ _ (by simp <;> omega)]; exact hc.2.2

theorem lit4 {w : World} {g J : Nat} {r : Int} (k : w.heap[g]? = some (.cells #[.int .i64 0, .int .i64 255, .int .i64 256, .int .i64 r] 3 (0, 0))) (hJ : J < 4) : ∃ q : Int, w.cell? ⟨g, J, none⟩ = some (.int .i64 q) := by
  have e : J = 0 ∨ J = 1 ∨ J = 2 ∨ J = 3 := by omega
  rcases e with rfl | rfl | rfl | rfl <;> exact ⟨_, by simp [World.cell?, k]; rfl⟩

set_option maxHeartbeats 8000000 in
theorem any_any (g : Nat) (a : Option Addr) (b off cap : Nat) (c : List Int) (w : World) (h : Dr.Cur w g a b off cap c) :
    Calls Try.prog 72 #[.pointer (some ⟨g, 0, none⟩)] w (AnyD w g a b off cap c) := by
  have hg := Dr.cur_lt h
  have hbl := Dr.rd_lt h.rd
  have hK := hid (acts_any _ _ _ _ _ _ _ h)
  clear h
  go_enter Try.func72, Try.ntmps72
  have t1 : True := trivial
  go_wp2_with (go_at_call 101; clear t1; refine hK.out.mono ?_; clear hK; rintro e w1 ⟨v, l, rfl, own, hl, hC, hO⟩; obtain ⟨gl, cl, rfl, hgl, hrd, hcl⟩ := hasA_form own (by omega); obtain ⟨cur, kl⟩ := hasA_blk own; have zl := (Array.getElem?_eq_some_iff.1 kl).1)
  · have hl0 : 0 < l.length := by omega
    clear kl hrd
    have t1 : True := trivial
    go_wp2_with (go_at_call 88; clear t1; refine (Dr.below_any _ _ _ _ _ _ 5 _ hC (by omega) (by omega)).mono ?_; rintro e w2 ⟨x, rfl, x0, x1, hC2, hO'⟩; have own2 := hasA_only own hO' (by omega); replace hO := Dr.only_trans hO hO'; have zl2 := Nat.lt_of_lt_of_le zl hO'.size; clear hC own hO' zl)
    · have t1 : True := trivial
      go_wp2_with (go_at_call 88; clear t1; refine (Dr.below_any _ _ _ _ _ _ l.length _ hC2 (by omega) (by omega)).mono ?_; rintro e w3 ⟨i, rfl, i0, i1, hC3, hO'⟩; have own3 := hasA_only own2 hO' (by omega); replace hO := Dr.only_trans hO hO'; have zl3 := Nat.lt_of_lt_of_le zl2 hO'.size; clear hC2 own2 hO' zl2)
      obtain ⟨I, hIe⟩ : ∃ I : Nat, i = I := ⟨i.toNat, by omega⟩
      subst hIe
      have hI : I < l.length := by omega
      have t1 : True := trivial
      go_wp2_with (go_at_call 88; clear t1; refine (Dr.below_any _ _ _ _ _ _ 3 _ hC3 (by omega) (by omega)).mono ?_; rintro e w4 ⟨k, rfl, k0, k1, hC4, hO'⟩; have own4 := hasA_only own3 hO' (by omega); replace hO := Dr.only_trans hO hO'; have zl4 := Nat.lt_of_lt_of_le zl3 hO'.size; clear hC3 own3 hO' zl3; obtain ⟨c0, c1, c2⟩ := (rd_hasA own4 (by omega)).cell I hI; rw [Nat.zero_add] at c0 c1 c2; obtain ⟨X, hX⟩ : ∃ X : A3, X = l.getD I Yb.z3 := ⟨_, rfl⟩; rw [← hX] at c0 c1 c2; clear hX; obtain ⟨p0, p1, p2⟩ := X; dsimp only at c0 c1 c2; have hOA := Dr.only_alloc (Mk.Only.refl g w4) (.cells #[.int .i64 p0, .int .i64 p1, .int .i64 p2] 76); have hCA := Dr.cur_alloc hC4 (.cells #[.int .i64 p0, .int .i64 p1, .int .i64 p2] 76); have kA : (w4.alloc (.cells #[.int .i64 p0, .int .i64 p1, .int .i64 p2] 76)).heap[w4.heap.size]? = some (.cells #[.int .i64 p0, .int .i64 p1, .int .i64 p2] 76 (0, 0)) := at_new rfl; have z4 := hO.size)
      · clear c0 c1 c2
        go_wp2_with (go_at_call 88; refine (Dr.below_any _ _ _ _ _ _ 8 _ hCA (by omega) (by omega)).mono ?_; rintro e w5 ⟨y, rfl, y0, y1, hC', hO'⟩; replace kA := (hO'.block _ (by simp <;> omega) (by simp; omega)).trans kA; have hO5 := Dr.only_trans hOA hO'; clear hO' hCA; have z5 := hO5.size; obtain ⟨q0, q1, q2⟩ := cells3 kA; have ff := Bl.free kA; have own5 := hasA_only own4 hO5 (by omega); obtain ⟨d0, d1, d2⟩ := (rd_hasA own5 (by omega)).cell I hI; rw [Nat.zero_add] at d0 d1 d2; obtain ⟨cur5, kl5⟩ := hasA_blk own5; have fl5 := Bl.free kl5; clear kl5)
        go_ret
        exact ⟨gl, cl, _, by rw [List.length_set]; rfl, rd_set3 (rd_hasA (hasA_only own4 (Dr.only_set hO5 (Nat.le_refl _)) (by omega)) (by omega)) hI, hgl, by simp; omega, Dr.cur_keep (B := w.heap.size) hC' (fun k hk => by rw [Below.heap_setCell _ _ _ k (by simp; omega), Below.heap_setCell _ _ _ k (by simp; omega), Below.heap_setCell _ _ _ k (by simp; omega), Below.heap_setCell _ _ _ k (by simp; omega)]) hg hbl, Dr.only_set (Dr.only_set (Dr.only_set (Dr.only_trans hO (Dr.only_set hO5 (Nat.le_refl _))) hgl) hgl) hgl⟩
      · clear c0 c1 c2
        have t1 : True := trivial
        go_wp2_with (go_at_call 102; clear t1; refine (Dr.raw_any _ _ _ _ _ _ _ hCA).mono ?_; rintro e w5' ⟨r, rfl, hC5', hO'⟩; replace kA := (hO'.block _ (by simp) (by simp; omega)).trans kA; have hO5' := Dr.only_trans hOA hO'; clear hO' hCA hOA; have hCA := Dr.cur_alloc hC5' (.cells #[.int .i64 0, .int .i64 255, .int .i64 256, .int .i64 r] 3); have hOA := Dr.only_alloc hO5' (.cells #[.int .i64 0, .int .i64 255, .int .i64 256, .int .i64 r] 3); have kL : (w5'.alloc (.cells #[.int .i64 0, .int .i64 255, .int .i64 256, .int .i64 r] 3)).heap[w5'.heap.size]? = some (.cells #[.int .i64 0, .int .i64 255, .int .i64 256, .int .i64 r] 3 (0, 0)) := at_new rfl; have z5' := (Array.getElem?_eq_some_iff.1 kA).1; replace kA := (Below.heap_alloc w5' (.cells #[.int .i64 0, .int .i64 255, .int .i64 256, .int .i64 r] 3) _ z5').trans kA)
        go_wp2_with (go_at_call 88; refine (Dr.below_any _ _ _ _ _ _ 4 _ hCA (by omega) (by omega)).mono ?_; rintro e w5 ⟨y, rfl, y0, y1, hC', hO'⟩; replace kL := (hO'.block _ (by simp) (by simp; omega)).trans kL; obtain ⟨J, hJ⟩ : ∃ J : Nat, y = J := ⟨y.toNat, by omega⟩; subst hJ; obtain ⟨q, cq⟩ := lit4 kL (by omega : J < 4); replace kA := (hO'.block _ (by simp <;> omega) (by simp; omega)).trans kA; have hO5 := Dr.only_trans hOA hO'; clear hO' hCA; have z5 := hO5.size; obtain ⟨q0, q1, q2⟩ := cells3 kA; have ff := Bl.free kA; have own5 := hasA_only own4 hO5 (by omega); obtain ⟨d0, d1, d2⟩ := (rd_hasA own5 (by omega)).cell I hI; rw [Nat.zero_add] at d0 d1 d2; obtain ⟨cur5, kl5⟩ := hasA_blk own5; have fl5 := Bl.free kl5; clear kl5)
        go_ret
        exact ⟨gl, cl, _, by rw [List.length_set]; rfl, rd_set3 (rd_hasA (hasA_only own4 (Dr.only_set hO5 (Nat.le_refl _)) (by omega)) (by omega)) hI, hgl, by simp; omega, Dr.cur_keep (B := w.heap.size) hC' (fun k hk => by rw [Below.heap_setCell _ _ _ k (by simp; omega), Below.heap_setCell _ _ _ k (by simp; omega), Below.heap_setCell _ _ _ k (by simp; omega), Below.heap_setCell _ _ _ k (by simp; omega)]) hg hbl, Dr.only_set (Dr.only_set (Dr.only_set (Dr.only_trans hO (Dr.only_set hO5 (Nat.le_refl _))) hgl) hgl) hgl⟩
      · clear c0 c1 c2
        go_wp2_with (go_at_call 102; refine (Dr.raw_any _ _ _ _ _ _ _ hCA).mono ?_; rintro e w5 ⟨y, rfl, hC', hO'⟩; replace kA := (hO'.block _ (by simp <;> omega) (by simp; omega)).trans kA; have hO5 := Dr.only_trans hOA hO'; clear hO' hCA; have z5 := hO5.size; obtain ⟨q0, q1, q2⟩ := cells3 kA; have ff := Bl.free kA; have own5 := hasA_only own4 hO5 (by omega); obtain ⟨d0, d1, d2⟩ := (rd_hasA own5 (by omega)).cell I hI; rw [Nat.zero_add] at d0 d1 d2; obtain ⟨cur5, kl5⟩ := hasA_blk own5; have fl5 := Bl.free kl5; clear kl5)
        go_ret
        exact ⟨gl, cl, _, by rw [List.length_set]; rfl, rd_set3 (rd_hasA (hasA_only own4 (Dr.only_set hO5 (Nat.le_refl _)) (by omega)) (by omega)) hI, hgl, by simp; omega, Dr.cur_keep (B := w.heap.size) hC' (fun k hk => by rw [Below.heap_setCell _ _ _ k (by simp; omega), Below.heap_setCell _ _ _ k (by simp; omega), Below.heap_setCell _ _ _ k (by simp; omega), Below.heap_setCell _ _ _ k (by simp; omega)]) hg hbl, Dr.only_set (Dr.only_set (Dr.only_set (Dr.only_trans hO (Dr.only_set hO5 (Nat.le_refl _))) hgl) hgl) hgl⟩
    · go_ret
      exact ⟨gl, cl, l, rfl, rd_hasA own2 (by omega), hgl, zl2, hC2, hO⟩
  · go_ret
    exact ⟨gl, cl, l, rfl, hrd, hgl, zl, hC, hO⟩

end Go.Proofs.Ytkakdldhinimoaa.Yz

namespace Go.Proofs.Ytkakdldhinimoaa.Za
set_option maxRecDepth 8000
set_option linter.unusedSimpArgs false
set_option linter.unusedVariables false
open Go Go.RowKit
open Num Pl Hr Hh Pq Ht Yh Yl Yu Yv Yw Yx Yy

/-- A head, ports and actions are handed back in memory of the call's own. -/
def DrawnP (w : World) (e : Ending) (w' : World) : Prop :=
  ∃ gh ch gp cp gl cl H P L, e = .returned (.tuple #[.agg #[.slice (some ⟨gh, 0, none⟩) (List.length H) ch], .slice (some ⟨gp, 0, none⟩) (List.length P) cp, .slice (some ⟨gl, 0, none⟩) (List.length L) cl]) ∧ Hr.Rd w' (some ⟨gh, 0, none⟩) gh 0 H ∧ Hr.Rd w' (some ⟨gp, 0, none⟩) gp 0 P ∧ Yb.Rd w' (some ⟨gl, 0, none⟩) gl 0 L ∧ Below w.heap.size w w'
theorem rdA_of_block {w w' : World} {g : Nat} {l : List A3} (h : Yb.Rd w (some ⟨g, 0, none⟩) g 0 l) (e : w'.heap[g]? = w.heap[g]?) : Yb.Rd w' (some ⟨g, 0, none⟩) g 0 l :=
  ⟨h.head, fun i hi => ⟨(World.cell?_of_block e).trans (h.cell i hi).1, (World.cell?_of_block e).trans (h.cell i hi).2.1, (World.cell?_of_block e).trans (h.cell i hi).2.2⟩, h.size⟩

set_option maxHeartbeats 4000000 in
theorem draw_any (a : Option Addr) (b off cap : Nat) (c : List Int) (w : World) (h : Rw.Rd w a b off c) : Calls Try.prog 39 #[.slice a c.length cap] w (DrawnP w) := by
  obtain ⟨W0, hW0⟩ : ∃ W0, W0 = w.alloc (.cells #[.slice none 0 0] 42) := ⟨_, rfl⟩
  have B0 : Below w.heap.size w W0 := by subst hW0; exact below_alloc1 _ _
  have k0 : W0.heap[w.heap.size]? = some (.cells #[.slice none 0 0] 42 (0, 0)) := by subst hW0; exact at_new rfl
  have z0 : w.heap.size < W0.heap.size := by subst hW0; simp
  have hN := hid (Dr.new_any a b off cap c W0 (h.below B0))
  clear h
  go_enter Try.func39, Try.ntmps39
  have t1 : True := trivial
  go_wp2_with (go_at_call 71; clear t1; rw [← hW0]; refine hN.out.mono ?_; clear hN hW0; rintro e w1 ⟨rfl, hC, hb⟩; have B1 := Rw.next B0 hb; replace k0 := (hb.block _ z0).trans k0; have hg := Dr.cur_lt hC; clear hb B0)
  have t1 : True := trivial
  go_wp2_with (go_at_call 72; clear t1; refine (Yz.any_any _ _ _ _ _ _ _ hC).mono ?_; rintro e w2 ⟨gl, cl, L, rfl, rL, hgl, hgl2, hC2, hO⟩; have hglg : gl ≠ W0.heap.size := (by omega); replace k0 := (hO.block _ (by omega) (by simp; omega)).trans k0; have hO2 := hO; clear hO hC)
  have t1 : True := trivial
  go_wp2_with (go_at_call 73; clear t1; refine (Yv.any_any _ _ _ _ _ _ _ hC2).mono ?_; rintro e w3 ⟨gh, ch, H, rfl, oH, hgh, hC3, hO⟩; have s2 := hO2.size; have s3 := hO.size; have lH := oH.lt; replace rL := rdA_of_block rL (hO.block _ hgl2 (by simp; omega)); replace k0 := (hO.block _ (by omega) (by simp; omega)).trans k0; replace hO2 := Dr.only_trans hO2 hO; clear hO hC2)
  have kH : (w3.alloc (.cells #[.slice (some ⟨gh, 0, none⟩) H.length ch] 42)).heap[w3.heap.size]? = some (.cells #[.slice (some ⟨gh, 0, none⟩) H.length ch] 42 (0, 0)) := at_new rfl
  have hC4 := Dr.cur_alloc hC3 (.cells #[.slice (some ⟨gh, 0, none⟩) H.length ch] 42)
  have hO4 := Dr.only_alloc hO2 (.cells #[.slice (some ⟨gh, 0, none⟩) H.length ch] 42)
  have bH := below_alloc1 w3 (.cells #[.slice (some ⟨gh, 0, none⟩) H.length ch] 42)
  replace oH := oH.below bH
  replace rL := rL.below bH
  replace k0 := (bH.block _ (by omega)).trans k0
  have z4 := bH.size
  have z5 : w3.heap.size < (w3.alloc (.cells #[.slice (some ⟨gh, 0, none⟩) H.length ch] 42)).heap.size := by simp
  clear bH hC3 hO2
  have t1 : True := trivial
  go_wp2_with (go_at_call 74; clear t1; refine (Yw.anyPorts_any _ _ _ _ _ _ _ hC4).mono ?_; rintro e w5 ⟨v, P, rfl, own, hP, hC5, hO⟩; obtain ⟨gp, cp, rfl, hgp, oP, _⟩ := own_has own (by omega); replace rL := rdA_of_block rL (hO.block _ (by omega) (by simp; omega)); replace oH := oH.of_block (hO.block _ (by omega) (by simp; omega)); replace k0 := (hO.block _ (by omega) (by simp; omega)).trans k0; replace kH := (hO.block _ z5 (by simp; omega)).trans kH; replace hO4 := Dr.only_trans hO4 hO; have e0 := Hh.one k0; have eH := Hh.one kH; have f0 := Bl.free k0; clear hO hC4)
  have b5 : Below w.heap.size w w5 := hO4.below B1 (by omega) (by omega)
  exact bodyPost_ret (v := .tuple #[.agg #[.slice (some ⟨gh, 0, none⟩) H.length ch], .slice (some ⟨gp, 0, none⟩) P.length cp, .slice (some ⟨gl, 0, none⟩) L.length cl]) (by simp [results, Try.results39, go_sem, Hh.one (block_set1 k0)]) rfl ⟨gh, ch, gp, cp, gl, cl, H, P, L, rfl, (oH.of_block (Below.heap_setCell _ _ _ _ (by simp; omega))).rd, (oP.of_block (Below.heap_setCell _ _ _ _ (by simp; omega))).rd, rdA_of_block rL (Below.heap_setCell _ _ _ _ (by simp; omega)), b5.setCell (by simp) _⟩

end Go.Proofs.Ytkakdldhinimoaa.Za

namespace Go.Proofs.Ytkakdldhinimoaa.Zb
set_option maxRecDepth 8000
set_option linter.unusedSimpArgs false
set_option linter.unusedVariables false
open Go Go.RowKit
open Num Pl Hr Hh Pq Ht Yh Yj Yk Yl Ym Yb Yc Yd Yo Yp Yq Yr Ys Yt

theorem has_any (a : Option Addr) (b off cap : Nat) (l : List Int) (q : Int) (w : World) (h : Rd w a b off l) :
    Calls Try.prog 40 #[.slice a l.length cap, .int .i64 q] w fun e w' => e = .returned (.bool (decide (q ∈ l))) ∧ w' = w := by
  obtain ⟨hh, hc, hs⟩ := h
  obtain ⟨n, hn⟩ : ∃ n, n = l.length := ⟨_, rfl⟩
  rw [← hn] at hh hc hs ⊢
  have HN : Hid (n = l.length) := hn
  clear hn
  go_enter Try.func40, Try.ntmps40
  go_wp2
  go_loop [9] (fun i => ∃ k : Nat, k ≤ n ∧ i = .int .i64 k ∧ ∀ i, i < k → l.getD i 0 ≠ q) (fun i => n - (intOf i).toNat)
  case atStart => exact ⟨0, Nat.zero_le _, rfl, fun i hi => by omega⟩
  case round =>
    obtain ⟨k, hk, rfl, hpre⟩ := hrel
    have HP : Hid (∀ i, i < k → l.getD i 0 ≠ q) := hpre
    clear hpre
    by_cases hlt : k < n
    · obtain rfl := hh (by omega)
      have hkz : (k : Int) < (n : Int) := by omega
      have c0 := hc k hlt
      generalize ex : l.getD k 0 = x at c0
      have HX : Hid (l.getD k 0 = x) := ex
      clear ex hc hh
      by_cases hq : x = q
      · subst hq
        go_wp2
        go_ret
        refine ⟨ret_bool (decide_eq_true ?_).symm, rfl⟩
        have hkl : k < l.length := by have := HN.out; omega
        have := HX.out
        simp [List.getD, hkl] at this
        rw [← this]
        exact List.getElem_mem hkl
      · have hqe : (x == q) = false := by simpa using hq
        go_wp2
        go_round
        case rel => exact ⟨k + 1, by omega, by go_num, fun i hi => by
          by_cases e : i = k
          · subst e; rw [HX.out]; exact hq
          · exact HP.out i (by omega)⟩
        case measure => simp [intOf]; omega
    · have he : k = n := by omega
      subst he
      go_wp2
      go_ret
      refine ⟨ret_bool (decide_eq_false ?_).symm, rfl⟩
      intro hm
      obtain ⟨i, hi, e⟩ := List.getElem_of_mem hm
      have := HN.out
      have := HP.out i (by omega)
      simp [List.getD, hi] at this
      exact this e


theorem goes_head {hin : Int} {ports now : List Int} {x : A3} {p : Int × List Int} (h : p ∈ goes hin ports now x) : p.2 = now := by
  unfold goes at h
  split at h
  · split at h
    · simp at h; rw [h]
    · simp at h
  · split at h
    · obtain ⟨q, _, rfl⟩ := List.mem_map.1 h; rfl
    · simp at h
theorem sentK_head {hin : Int} {ports : List Int} {l : List A3} {h : List Int} (hB : Hg.headB h = true) : ∀ k, pre l k → ∀ p ∈ sentK hin ports l h k, Hg.headB p.2 = true
  | 0, _, p, hp => by simp [sentK] at hp
  | k + 1, hpre, p, hp => by
    simp only [sentK] at hp
    rcases List.mem_append.1 hp with q | q
    · exact sentK_head hB k (fun i hi => hpre i (by omega)) p q
    · rw [goes_head q]; exact head_nowK hB (k + 1) hpre
theorem strict_len : ∀ (A Z : List Int), A.Pairwise (· < ·) → (∀ x ∈ A, x ∈ Z) → A.length ≤ Z.length
  | [], Z, _, _ => by simp
  | x :: A, Z, hp, hm => by
    have hx := hm x (List.mem_cons_self ..)
    have q := strict_len A (Z.erase x) (List.pairwise_cons.1 hp).2 (fun y hy => (List.mem_erase_of_ne (by have := (List.pairwise_cons.1 hp).1 y hy; omega)).2 (hm y (List.mem_cons_of_mem _ hy)))
    rw [List.length_erase_of_mem hx] at q
    have : 0 < Z.length := List.length_pos_of_mem hx
    simp only [List.length_cons]
    omega

/-- What Perform sends and OutPorts tells, with what is asked of it. -/
theorem allS (h ports : List Int) (l : List A3) : ∃ R L, L.length ≤ 96 ∧ CP 28 h ports l R L ∧ CP 26 h ports l R L ∧ CO 37 h ports l (outs (L.map (·.1)) 255) ∧
    (∀ p ∈ L, p.1 ∈ ports ∧ p.1 ≠ h.getD 0 0 ∧ p.1 ∈ outs (L.map (·.1)) 255 ∧ Hg.headB p.2 = true) ∧ (0 < L.length → h.length = 8) ∧ (outs (L.map (·.1)) 255).length ≤ L.length ∧ (0 < L.length → 0 < (outs (L.map (·.1)) 255).length) := by
  have hlen : ∀ L : List (Int × List Int), (outs (L.map (·.1)) 255).length ≤ L.length := fun L => by
    have := strict_len _ (L.map (·.1)) (outs_strict (L.map (·.1)) 255) (fun x hx => ((outs_mem x).1 hx).1)
    simpa using this
  cases hR : actsB l && Hg.headB h && Ya.portsB ports
  · have hI : CP 28 h ports l false [] := fun ha pa a hb ho hc pb po pc b off cap w h1 h2 h3 => perfI_no ha hb ho hc h pa pb po pc ports a b off cap l w h1 h2 h3 hR
    have hS : CP 26 h ports l false [] := fun ha pa a hb ho hc pb po pc b off cap w h1 h2 h3 => Yn.perfS_no ha hb ho hc h pa pb po pc ports a b off cap l w h1 h2 h3 hR
    refine ⟨false, [], by simp, hI, hS, ?_, fun p hp => (by cases hp), fun q => absurd q (by simp), hlen _, fun q => absurd q (by simp)⟩
    have := outI (by simp) hI
    rw [compact_sorted (by simp)] at this
    exact this
  · simp only [Bool.and_eq_true] at hR
    obtain ⟨⟨q1, q2⟩, q3⟩ := hR
    have hI : CP 28 h ports l true (sentK (h.getD 0 0) ports l h l.length) := fun ha pa a hb ho hc pb po pc b off cap w h1 h2 h3 => perfI_yes ha hb ho hc h pa pb po pc ports a b off cap l w h1 h2 h3 q1 q2 q3
    have hS : CP 26 h ports l true (sentK (h.getD 0 0) ports l h l.length) := fun ha pa a hb ho hc pb po pc b off cap w h1 h2 h3 => Yn.perfS_yes ha hb ho hc h pa pb po pc ports a b off cap l w h1 h2 h3 q1 q2 q3
    have hL : (sentK (h.getD 0 0) ports l h l.length).length ≤ 96 := by
      have := sentK_len (h.getD 0 0) ports l h (of_decide_eq_true q3).1 l.length
      have := (actsB_out q1).1
      omega
    have hall : ∀ p ∈ sentK (h.getD 0 0) ports l h l.length, p.1 ∈ ports ∧ p.1 ≠ h.getD 0 0 ∧ p.1 ∈ outs ((sentK (h.getD 0 0) ports l h l.length).map (·.1)) 255 ∧ Hg.headB p.2 = true := fun p hp => by
      have a1 := sentK_port _ p hp
      have a2 := port_range q3 a1.1
      exact ⟨a1.1, a1.2, (outs_mem _).2 ⟨List.mem_map.2 ⟨p, hp, rfl⟩, a2.1, a2.2⟩, sentK_head q2 _ (actsB_out q1).2 p hp⟩
    refine ⟨true, _, hL, hI, hS, ?_, hall, fun _ => head_len q2, hlen _, fun q => ?_⟩
    · have := outI hL hI
      rw [compact_sorted ?_] at this
      · exact this
      · intro z hz
        obtain ⟨p, hp, rfl⟩ := List.mem_map.1 hz
        exact port_range q3 (sentK_port _ p hp).1
    · obtain ⟨p, hp⟩ := List.exists_mem_of_length_pos q
      exact List.length_pos_of_mem (hall p hp).2.2.1

end Go.Proofs.Ytkakdldhinimoaa.Zb

namespace Go.Proofs.Ytkakdldhinimoaa.Zc
set_option maxRecDepth 8000
set_option linter.unusedSimpArgs false
set_option linter.unusedVariables false
open Go Go.RowKit
open Num Pl Hr Hh Pq Ht Yh Yj Yk Yl Ym Yb Yc Yd Yo Yp Yq Yr Ys Yt

theorem cells2 {w : World} {g : Nat} {x0 x1 : Value} {t : TypeId} (k : w.heap[g]? = some (.cells #[x0, x1] t (0, 0))) : w.cell? ⟨g, 0, none⟩ = some x0 ∧ w.cell? ⟨g, 1, none⟩ = some x1 := by
  simp [World.cell?, k]
/-- One of what was sent. -/
def One (W : World) (H P K : List Int) (vg k : Nat) : Prop :=
  ∃ (p : Int) (ge ce : Nat) (le : List Int), W.cell? ⟨vg, k * 2, none⟩ = some (.int .i64 p) ∧ W.cell? ⟨vg, k * 2 + 1, none⟩ = some (.slice (some ⟨ge, 0, none⟩) 8 ce) ∧ Own W ge le ∧ le.length = 8 ∧ p ∈ P ∧ p ≠ H.getD 0 0 ∧ p ∈ K ∧ Hg.headB le = true

set_option maxHeartbeats 8000000 in
theorem walk (a0 : Option Addr) (n0 c0 : Nat) (z0 : List Int) (w : World) (w0 : Rw.IsRow .u8 w a0 n0 c0 z0) :
    Calls Try.prog 9 #[.slice a0 n0 c0] w fun e w' => e = .returned (.bool true) ∧ Below w.heap.size w w' := by
  by_cases hbig : 1048576 < n0
  · have hbz : (1048576 : Int) < (n0 : Int) := by omega
    go_enter Try.func9, Try.ntmps9
    go_wp2
    go_ret
    exact ⟨rfl, Below.refl _ _⟩
  obtain ⟨b, off, c, hl, hr⟩ := Rw.rd_of_isRow w0 (by omega)
  subst hl
  have hbz : ¬ (1048576 : Int) < (c.length : Int) := by omega
  clear w0
  have HD := hid (Za.draw_any a0 b off c0 c w hr)
  clear hr
  go_enter Try.func9, Try.ntmps9
  have t1 : True := trivial
  go_wp2_with (go_at_call 39; clear t1; refine HD.out.mono ?_; clear HD; rintro e w1 ⟨gh, ch, gp, cp, gl, cl, H, P, L, rfl, rH, rP, rL, B⟩)
  obtain ⟨R, S, hS96, h28, h26, h37, hall, h8, hlen, hpos⟩ := Zb.allS H P L
  obtain ⟨K, hK⟩ : ∃ K, K = outs (S.map (·.1)) 255 := ⟨_, rfl⟩
  rw [← hK] at h37 hall hlen hpos
  have H28 := hid h28
  have H26 := hid h26
  have H37 := hid h37
  have HALL := hid hall
  clear h28 h26 h37 hall hK
  obtain ⟨W2, hW2⟩ : ∃ W2, W2 = w1.alloc (.cells #[.slice (some ⟨gh, 0, none⟩) H.length ch] 42) := ⟨_, rfl⟩
  have kX : W2.heap[w1.heap.size]? = some (.cells #[.slice (some ⟨gh, 0, none⟩) H.length ch] 42 (0, 0)) := by subst hW2; exact at_new rfl
  have b2 : Below w1.heap.size w1 W2 := by subst hW2; exact below_alloc1 _ _
  replace rH := rH.below b2
  replace rP := rP.below b2
  replace rL := rL.below b2
  replace B := Rw.next B b2
  clear b2
  have zX := (Array.getElem?_eq_some_iff.1 kX).1
  have hne : (R != R) = false := by simp
  have t1 : True := trivial
  go_wp2_with (go_at_call 28; clear t1; rw [← hW2]; refine (H28.out _ _ _ _ _ _ _ _ _ _ _ _ _ rH rP rL).mono ?_; clear H28 hW2; rintro e w3 ⟨Bs, v, Q, rfl, sn, hBs, saq, hb⟩; obtain ⟨va, vg, vc, rfl, hvh, hvc⟩ := view sn; replace rH := rH.below hb; replace rP := rP.below hb; replace rL := rL.below hb; replace B := Rw.next B hb; replace kX := (hb.block _ zX).trans kX; replace zX := Nat.lt_of_lt_of_le zX hb.size; clear hb; have eX := Hh.one kX)
  have t1 : True := trivial
  go_wp2_with (go_at_call 26; clear t1; refine (H26.out _ _ _ _ _ _ _ _ _ _ _ _ _ rH rP rL).mono ?_; clear H26 eX; rintro e w4 ⟨Bt, u, Qt, rfl, _, _, _, hb⟩; have b34 := hb; replace rH := rH.below hb; replace rP := rP.below hb; replace rL := rL.below hb; replace B := Rw.next B hb; replace kX := (hb.block _ zX).trans kX; replace zX := Nat.lt_of_lt_of_le zX hb.size; clear hb; have eX := Hh.one kX)
  have t1 : True := trivial
  go_wp2_with (go_at_call 37; clear t1; refine (H37.out _ _ _ _ _ _ _ _ _ _ _ _ _ rH rP rL).mono ?_; clear H37 eX; rintro e w5 ⟨gk, ck, rfl, oK, _, hb⟩; have b35 := Rw.next b34 hb; replace rH := rH.below hb; replace rP := rP.below hb; replace B := Rw.next B hb; replace kX := (hb.block _ zX).trans kX; replace zX := Nat.lt_of_lt_of_le zX hb.size; clear hb b34 rL)
  obtain ⟨n, hn⟩ : ∃ n, n = Q.length := ⟨_, rfl⟩
  have hSn : S.length = n := by rw [← saq, said_len, hn]
  have HONE : Hid (∀ k, k < n → One w5 H P K vg k) := fun k hk => by
    have hk' : k < Q.length := by omega
    obtain ⟨d0, d1⟩ := hvc k hk'
    have hm : Q.getD k e0 ∈ Q := by simp [List.getD, hk']
    obtain ⟨o, _, l8⟩ := sn.row _ hm
    have hS : ((Q.getD k e0).p, (Q.getD k e0).l) ∈ S := by rw [← saq]; exact List.mem_map.2 ⟨_, hm, rfl⟩
    obtain ⟨y1, y2, y3, y4⟩ := HALL.out _ hS
    exact ⟨_, _, _, _, (b35.cell (World.block_lt_of_cell? _ _ d0)).trans d0, (b35.cell (World.block_lt_of_cell? _ _ d1)).trans d1, o.below b35, l8, y1, y2, y3, y4⟩
  rw [hSn] at h8 hlen hpos hS96
  have hvh' : 0 < n → va = some ⟨vg, 0, none⟩ := fun q => (hvh (by omega)).1
  have h0 : H.getD 0 0 = H.getD 0 0 := rfl
  rw [← hn]
  clear hvc hvh HALL saq sn hn hSn b35
  have H8 := hid h8
  have HPOS := hid hpos
  have HLEN := hid hlen
  have HVH := hid hvh'
  clear h8 hpos hlen hvh' h0
  go_loopw [45, 12] (fun i _ wr => ∃ k : Nat, k ≤ n ∧ i = .int .i64 k ∧ Below w5.heap.size w5 wr) (fun i _ _ => n - (intOf i).toNat)
  case atStart => exact ⟨0, Nat.zero_le _, rfl, Below.refl _ _⟩
  case round =>
    obtain ⟨k, hk, rfl, bel⟩ := hrel
    by_cases hlt : k < n
    · obtain rfl := HVH.out (by omega)
      have hkz : (k : Int) < (n : Int) := by omega
      obtain ⟨p, ge, ce, le, d0, d1, oe, l8, mP, nP, mK, hB⟩ := HONE.out k hlt
      replace d0 := (bel.cell (World.block_lt_of_cell? _ _ d0)).trans d0
      replace d1 := (bel.cell (World.block_lt_of_cell? _ _ d1)).trans d1
      have hH0 : 0 < H.length := by have := H8.out (by omega); omega
      have h0c := rH.cell 0 hH0
      rw [Nat.zero_add] at h0c
      have HNE : Hid (p ≠ H.getD 0 0) := nP
      generalize H.getD 0 0 = h0 at *
      have hne0 : (p == h0) = false := by simpa using HNE.out
      obtain ⟨W6, hW6⟩ : ∃ W6, W6 = wr.alloc (.cells #[.int .i64 p, .slice (some ⟨ge, 0, none⟩) 8 ce] 56) := ⟨_, rfl⟩
      have kS : W6.heap[wr.heap.size]? = some (.cells #[.int .i64 p, .slice (some ⟨ge, 0, none⟩) 8 ce] 56 (0, 0)) := by subst hW6; exact at_new rfl
      have bel6 : Below w5.heap.size w5 W6 := by subst hW6; exact Rw.next bel (below_alloc1 _ _)
      have zS := (Array.getElem?_eq_some_iff.1 kS).1
      have kX6 := (bel6.block _ zX).trans kX
      have h06 := (bel6.cell (World.block_lt_of_cell? _ _ h0c)).trans h0c
      go_wp2_with fail
      rw [← hW6]
      clear hW6 d0 d1 h0c bel nP
      refine wp_region_held_drew (S := (fun w' => w'.heap[wr.heap.size]? = some (.cells #[.int .i64 p, .slice (some ⟨ge, 0, none⟩) 8 ce] 56 (0, 0)) ∧ w'.heap[w1.heap.size]? = some (.cells #[.slice (some ⟨gh, 0, none⟩) H.length ch] 42 (0, 0)) ∧ w'.cell? ⟨gh, 0, none⟩ = some (.int .i64 h0))) (by kernel_rfl) ⟨kS, kX6, h06⟩ (fun hHeld => ?_)
      refine Pq.take (i := 0) (d := some 49) (v := .slice (some ⟨gp, 0, none⟩) P.length cp) rfl (by kernel_rfl) (by kernel_rfl) (by kernel_rfl) (by kernel_rfl) (fun _ _ _ h => h) (Or.inl ⟨by rfl, by intro w hSw; go_simp⟩) hHeld ?_
      simp only [Act.put, List.setIfInBounds_toArray, List.set_cons_zero, List.set_cons_succ]
      refine Pq.take (i := 1) (d := some 50) (v := .pointer (some ⟨wr.heap.size, 0, none⟩)) rfl (by kernel_rfl) (by kernel_rfl) (by kernel_rfl) (by kernel_rfl) (fun _ _ _ h => h) (Or.inl ⟨by rfl, by intro w hSw; go_simp⟩) hHeld ?_
      simp only [Act.put, List.setIfInBounds_toArray, List.set_cons_zero, List.set_cons_succ]
      refine Pq.take (i := 2) (d := some 51) (v := .int .i64 p) rfl (by kernel_rfl) (by kernel_rfl) (by kernel_rfl) (by kernel_rfl) (fun _ _ _ h => h) (Or.inl ⟨by rfl, by intro w hSw; obtain ⟨q1, q2⟩ := cells2 hSw.1; go_simp⟩) hHeld ?_
      simp only [Act.put, List.setIfInBounds_toArray, List.set_cons_zero, List.set_cons_succ]
      refine wpAnyH_ready (rs := [3]) (by kernel_rfl) (by simp) (Rg.call2 (i := 3) rfl (by kernel_rfl) 40 (.tmp 49) (.tmp 51) 22 3 (by kernel_rfl) 52 (by kernel_rfl) (.slice (some ⟨gp, 0, none⟩) P.length cp) (.int .i64 p) (by kernel_rfl) (by kernel_rfl) (fun _ => rfl) (Zb.has_any _ _ _ _ _ _ _ ((rP.below bel6).below (Below.drew (Below.refl _ W6)))) ?_ AllReadyH.nil)
      rw [decide_eq_true mP]
      rintro e W7 ⟨rfl, hw⟩
      replace bel6 := Rw.next bel6 (Below.drew (Below.refl _ W6))
      replace kS : W6.drew.heap[wr.heap.size]? = _ := kS
      replace kX6 : W6.drew.heap[w1.heap.size]? = _ := kX6
      replace h06 : W6.drew.cell? ⟨gh, 0, none⟩ = _ := h06
      rw [← hw] at bel6 kS kX6 h06
      clear hw
      refine ⟨_, rfl, ⟨kS, kX6, h06⟩, fun hHeld => ?_⟩
      simp only [Act.put, List.setIfInBounds_toArray, List.set_cons_zero, List.set_cons_succ]
      refine Pq.take (i := 4) (d := some 53) (v := .bool false) rfl (by kernel_rfl) (by kernel_rfl) (by kernel_rfl) (by kernel_rfl) (fun _ _ _ h => h) (Or.inl ⟨by rfl, by intro w hSw; go_simp⟩) hHeld ?_
      simp only [Act.put, List.setIfInBounds_toArray, List.set_cons_zero, List.set_cons_succ]
      refine Pq.take (i := 5) (d := some 54) (v := .bool false) rfl (by kernel_rfl) (by kernel_rfl) (by kernel_rfl) (by kernel_rfl) (fun _ _ _ h => h) (Or.inl ⟨by rfl, by intro w hSw; go_simp⟩) hHeld ?_
      simp only [Act.put, List.setIfInBounds_toArray, List.set_cons_zero, List.set_cons_succ]
      refine Pq.take (i := 6) (d := some 55) (v := .pointer (some ⟨wr.heap.size, 0, none⟩)) rfl (by kernel_rfl) (by kernel_rfl) (by kernel_rfl) (by kernel_rfl) (fun _ _ _ h => h) (Or.inl ⟨by rfl, by intro w hSw; go_simp⟩) hHeld ?_
      simp only [Act.put, List.setIfInBounds_toArray, List.set_cons_zero, List.set_cons_succ]
      refine Pq.take (i := 7) (d := some 56) (v := .int .i64 p) rfl (by kernel_rfl) (by kernel_rfl) (by kernel_rfl) (by kernel_rfl) (fun _ _ _ h => h) (Or.inl ⟨by rfl, by intro w hSw; obtain ⟨q1, q2⟩ := cells2 hSw.1; go_simp⟩) hHeld ?_
      simp only [Act.put, List.setIfInBounds_toArray, List.set_cons_zero, List.set_cons_succ]
      refine Pq.take (i := 8) (d := some 57) (v := .pointer (some ⟨w1.heap.size, 0, none⟩)) rfl (by kernel_rfl) (by kernel_rfl) (by kernel_rfl) (by kernel_rfl) (fun _ _ _ h => h) (Or.inl ⟨by rfl, by intro w hSw; go_simp⟩) hHeld ?_
      simp only [Act.put, List.setIfInBounds_toArray, List.set_cons_zero, List.set_cons_succ]
      refine Pq.take (i := 9) (d := some 58) (v := .slice (some ⟨gh, 0, none⟩) H.length ch) rfl (by kernel_rfl) (by kernel_rfl) (by kernel_rfl) (by kernel_rfl) (fun _ _ _ h => h) (Or.inl ⟨by rfl, by intro w hSw; have q1 := Hh.one hSw.2.1; go_simp⟩) hHeld ?_
      simp only [Act.put, List.setIfInBounds_toArray, List.set_cons_zero, List.set_cons_succ]
      refine Pq.take (i := 10) (d := some 59) (v := .pointer (some ⟨gh, 0, none⟩)) rfl (by kernel_rfl) (by kernel_rfl) (by kernel_rfl) (by kernel_rfl) (fun _ _ _ h => h) (Or.inl ⟨by rfl, by intro w hSw; go_simp⟩) hHeld ?_
      simp only [Act.put, List.setIfInBounds_toArray, List.set_cons_zero, List.set_cons_succ]
      refine Pq.take (i := 11) (d := some 60) (v := .int .i64 h0) rfl (by kernel_rfl) (by kernel_rfl) (by kernel_rfl) (by kernel_rfl) (fun _ _ _ h => h) (Or.inl ⟨by rfl, by intro w hSw; have q1 := hSw.2.2; go_simp⟩) hHeld ?_
      simp only [Act.put, List.setIfInBounds_toArray, List.set_cons_zero, List.set_cons_succ]
      refine Pq.take (i := 12) (d := some 61) (v := .bool false) rfl (by kernel_rfl) (by kernel_rfl) (by kernel_rfl) (by kernel_rfl) (fun _ _ _ h => h) (Or.inl ⟨by rfl, by intro w hSw; go_simp⟩) hHeld ?_
      simp only [Act.put, List.setIfInBounds_toArray, List.set_cons_zero, List.set_cons_succ]
      refine Pq.take (i := 13) (d := some 62) (v := .bool false) rfl (by kernel_rfl) (by kernel_rfl) (by kernel_rfl) (by kernel_rfl) (fun _ _ _ h => h) (Or.inl ⟨by rfl, by intro w hSw; go_simp⟩) hHeld ?_
      simp only [Act.put, List.setIfInBounds_toArray, List.set_cons_zero, List.set_cons_succ]
      refine Pq.take (i := 14) (d := some 63) (v := .bool false) rfl (by kernel_rfl) (by kernel_rfl) (by kernel_rfl) (by kernel_rfl) (fun _ _ _ h => h) (Or.inl ⟨by rfl, by intro w hSw; go_simp⟩) hHeld ?_
      simp only [Act.put, List.setIfInBounds_toArray, List.set_cons_zero, List.set_cons_succ]
      refine Pq.take (i := 15) (d := some 64) (v := .slice (some ⟨gk, 0, none⟩) K.length ck) rfl (by kernel_rfl) (by kernel_rfl) (by kernel_rfl) (by kernel_rfl) (fun _ _ _ h => h) (Or.inl ⟨by rfl, by intro w hSw; go_simp⟩) hHeld ?_
      simp only [Act.put, List.setIfInBounds_toArray, List.set_cons_zero, List.set_cons_succ]
      refine Pq.take (i := 16) (d := some 65) (v := .pointer (some ⟨wr.heap.size, 0, none⟩)) rfl (by kernel_rfl) (by kernel_rfl) (by kernel_rfl) (by kernel_rfl) (fun _ _ _ h => h) (Or.inl ⟨by rfl, by intro w hSw; go_simp⟩) hHeld ?_
      simp only [Act.put, List.setIfInBounds_toArray, List.set_cons_zero, List.set_cons_succ]
      refine Pq.take (i := 17) (d := some 66) (v := .int .i64 p) rfl (by kernel_rfl) (by kernel_rfl) (by kernel_rfl) (by kernel_rfl) (fun _ _ _ h => h) (Or.inl ⟨by rfl, by intro w hSw; obtain ⟨q1, q2⟩ := cells2 hSw.1; go_simp⟩) hHeld ?_
      simp only [Act.put, List.setIfInBounds_toArray, List.set_cons_zero, List.set_cons_succ]
      refine wpAnyH_ready (rs := [18]) (by kernel_rfl) (by simp) (Rg.call2 (i := 18) rfl (by kernel_rfl) 40 (.tmp 64) (.tmp 66) 22 3 (by kernel_rfl) 67 (by kernel_rfl) (.slice (some ⟨gk, 0, none⟩) K.length ck) (.int .i64 p) (by kernel_rfl) (by kernel_rfl) (fun _ => rfl) (Zb.has_any _ _ _ _ _ _ _ (oK.rd.below bel6)) ?_ AllReadyH.nil)
      rw [decide_eq_true mK]
      rintro e W8 ⟨rfl, hw⟩
      replace hw := hw.symm
      subst hw
      refine ⟨_, rfl, ⟨kS, kX6, h06⟩, fun hHeld => ?_⟩
      simp only [Act.put, List.setIfInBounds_toArray, List.set_cons_zero, List.set_cons_succ]
      refine Pq.take (i := 19) (d := some 68) (v := .bool false) rfl (by kernel_rfl) (by kernel_rfl) (by kernel_rfl) (by kernel_rfl) (fun _ _ _ h => h) (Or.inl ⟨by rfl, by intro w hSw; go_simp⟩) hHeld ?_
      simp only [Act.put, List.setIfInBounds_toArray, List.set_cons_zero, List.set_cons_succ]
      refine Pq.take (i := 20) (d := some 69) (v := .bool false) rfl (by kernel_rfl) (by kernel_rfl) (by kernel_rfl) (by kernel_rfl) (fun _ _ _ h => h) (Or.inl ⟨by rfl, by intro w hSw; go_simp⟩) hHeld ?_
      simp only [Act.put, List.setIfInBounds_toArray, List.set_cons_zero, List.set_cons_succ]
      refine Pq.take (i := 21) (d := some 70) (v := .bool false) rfl (by kernel_rfl) (by kernel_rfl) (by kernel_rfl) (by kernel_rfl) (fun _ _ _ h => h) (Or.inl ⟨by rfl, by intro w hSw; go_simp⟩) hHeld ?_
      simp only [Act.put, List.setIfInBounds_toArray, List.set_cons_zero, List.set_cons_succ]
      refine Pq.take (i := 22) (d := some 71) (v := .pointer (some ⟨wr.heap.size, 1, none⟩)) rfl (by kernel_rfl) (by kernel_rfl) (by kernel_rfl) (by kernel_rfl) (fun _ _ _ h => h) (Or.inl ⟨by rfl, by intro w hSw; go_simp⟩) hHeld ?_
      simp only [Act.put, List.setIfInBounds_toArray, List.set_cons_zero, List.set_cons_succ]
      refine Pq.take (i := 23) (d := some 72) (v := .agg #[.slice (some ⟨ge, 0, none⟩) 8 ce]) rfl (by kernel_rfl) (by kernel_rfl) (by kernel_rfl) (by kernel_rfl) (fun _ _ _ h => h) (Or.inl ⟨by rfl, by intro w hSw; obtain ⟨q1, q2⟩ := cells2 hSw.1; go_simp⟩) hHeld ?_
      simp only [Act.put, List.setIfInBounds_toArray, List.set_cons_zero, List.set_cons_succ]
      have hOk := Hg.implOk_any _ _ _ ce _ _ (oe.rd.below bel6)
      rw [l8, hB] at hOk
      refine wpAnyH_ready (rs := [24]) (by kernel_rfl) (by simp) (Rg.call1 (i := 24) rfl (by kernel_rfl) 41 (.tmp 72) 42 (by kernel_rfl) 73 (by kernel_rfl) (.agg #[.slice (some ⟨ge, 0, none⟩) 8 ce]) (by kernel_rfl) (fun _ => rfl) hOk ?_ AllReadyH.nil)
      clear hOk
      rintro e W9 ⟨rfl, hb⟩
      replace kS := (hb.block _ (by have := (Array.getElem?_eq_some_iff.1 kS).1; omega)).trans kS
      replace kX6 := (hb.block _ (by have := (Array.getElem?_eq_some_iff.1 kX6).1; omega)).trans kX6
      replace h06 := (hb.cell (World.block_lt_of_cell? _ _ h06)).trans h06
      replace bel6 := Rw.next bel6 hb
      clear hb
      refine ⟨_, rfl, ⟨kS, kX6, h06⟩, fun hHeld => ?_⟩
      simp only [Act.put, List.setIfInBounds_toArray, List.set_cons_zero, List.set_cons_succ]
      refine Pq.take (i := 25) (d := some 74) (v := .bool false) rfl (by kernel_rfl) (by kernel_rfl) (by kernel_rfl) (by kernel_rfl) (fun _ _ _ h => h) (Or.inl ⟨by rfl, by intro w hSw; go_simp⟩) hHeld ?_
      simp only [Act.put, List.setIfInBounds_toArray, List.set_cons_zero, List.set_cons_succ]
      refine Pq.take (i := 26) (d := some 75) (v := .bool false) rfl (by kernel_rfl) (by kernel_rfl) (by kernel_rfl) (by kernel_rfl) (fun _ _ _ h => h) (Or.inl ⟨by rfl, by intro w hSw; go_simp⟩) hHeld ?_
      simp only [Act.put, List.setIfInBounds_toArray, List.set_cons_zero, List.set_cons_succ]
      refine wpAnyH_done (by kernel_rfl) ?_ _
      go_wp2
      go_roundw
      case rel => exact ⟨k + 1, by omega, by go_num, bel6⟩
      case measure => simp [intOf]; omega
    · obtain rfl : k = n := by omega
      have hKn := HLEN.out
      have hKz : (K.length : Int) ≤ (k : Int) := by omega
      by_cases hn0 : 0 < k
      · have u1 : (0 : Int) < (k : Int) := by omega
        have u2 : (0 : Int) < (K.length : Int) := by have := HPOS.out hn0; omega
        go_wp2
        go_ret
        exact ⟨ret_bool (decide_eq_true (HPOS.out hn0)), B.trans (bel.mono B.size)⟩
      · obtain rfl : k = 0 := by omega
        have hK0 : K.length = 0 := by omega
        rw [hK0]
        clear hKz hKn hK0
        go_wp2
        go_ret
        exact ⟨rfl, B.trans (bel.mono B.size)⟩

end Go.Proofs.Ytkakdldhinimoaa.Zc

namespace Go.Proofs.Ytkakdldhinimoaa.fnActs
open Go.ChangeShapes Go.WideShapes Go.ChangeAt Go.RowKit
set_option linter.unusedVariables false
set_option linter.unusedSimpArgs false

theorem own : ownKnob Try.prog.godebug = none := by kernel_rfl
theorem laidOut : laidOutB Try.prog = true := by kernel_rfl

set_option maxRecDepth 8000 in
set_option maxHeartbeats 16000000 in
theorem walk (a0 : Option Addr) (n0 c0 : Nat) (z0 : List Int) (w : World) (w0 : Rw.IsRow .u8 w a0 n0 c0 z0) :
    Calls Try.prog 9 #[.slice a0 n0 c0] w fun e w' => e = .returned (.bool true) ∧ Below w.heap.size w w' := by
  exact Zc.walk _ _ _ _ _ w0

set_option maxRecDepth 100000 in
theorem lifted (os : Os) (started : os.Started) (H : Type) (enc : TypeId × Value → H) :
    ReturnsInHanded {} Try.checked os 9 .any (Rows.fnActsSpec.pre6 enc Try.prog Try.f9 Rows.fnActsRow.domain false) (Rows.fnActsSpec.post enc Try.prog Try.f9 false true false false) := by
  refine returnsInHanded_of_change (C := Try.checked) own started (by kernel_rfl) Try.func9
    (ChangeSpec.witness6 (enc := enc) (C := Try.checked) false ⟨#[], #[.slice none 0 0], []⟩ 8 (by kernel_rfl) (by kernel_rfl) (by kernel_rfl) (by kernel_rfl)) ?_
  intro W base args ds gs before hval0 hW hcnd _
  have hval : ∀ (j : Nat) t v, Try.f9.params[j]? = some t → args[j]? = some v → Value.okWide Try.prog W .any base t v := hval0
  have hW' := hW
  obtain ⟨p, q, hA0, hV, rfl, hfz, hnd⟩ := hW
  have hA : DataW.TrodAll enc Try.prog W 0 (fun _ => true) true Try.f9.params.toList args.toList ds p := hA0
  rw [Try.params9] at hA hval
  obtain ⟨v0, vs0, d0, ds0, p0, q0, hargs, rfl, rfl, h0, r0⟩ := trodAll_cons hA
  obtain ⟨rfl, rfl, rfl⟩ := trodAll_nil r0
  obtain rfl : args = #[v0] := by cases args; simp_all
  obtain ⟨rfl, rfl⟩ := trodVars_none hV
  have k0 := h0
  have lt0 : ∀ x ∈ p0, x.block < W.heap.size := by obtain ⟨m, hm⟩ := k0; exact DataW.trod_lt m _ _ _ hm
  obtain ⟨a0, n0, c0, rfl⟩ := okWide_slice Try.underlying52 (hval 0 52 v0 rfl rfl)
  obtain ⟨z0, w0⟩ : ∃ zs, Rw.IsRow .u8 W a0 n0 c0 zs := by
    obtain ⟨fuel, hf⟩ := h0
    rcases open_ints Try.underlying52 Try.underlying5 (by kernel_rfl) hf with ⟨hcs, _⟩ | ⟨x, l, c, zs, hcs, _, hl, hm, hz, _, hcell, hwz⟩
    · simp [Value.cells] at hcs
      obtain ⟨rfl, rfl, rfl⟩ := hcs
      exact ⟨[], .inl ⟨rfl, rfl, rfl, rfl⟩⟩
    · simp [Value.cells] at hcs
      obtain ⟨rfl, rfl, rfl⟩ := hcs
      exact ⟨zs, .inr ⟨_, rfl, hl, hm, by simpa using hz, hcell, hwz⟩⟩
  clear hA0 hval0
  refine (walk a0 n0 c0 z0 W w0).mono fun e W' ⟨he, bel⟩ => ?_
  subst he
  exact ⟨_, rfl, _, _, _, [], _, [], hW', trodAll_mk1 (shut_bool Try.underlying4 _), (trodAll_cons_mk (Below.trod laidOut (by kernel_rfl) (of_decide_eq_true (by kernel_rfl)) k0 bel lt0) trodAll_mk0), rfl, bel.frame _, fun h => by cases h⟩

theorem over : Rows.fnActsRow.holds Try.pinned (OpenSpec.ofChange Rows.fnActsSpec) :=
  OpenClaim.holds_of_wide 9 Try.f9 rfl rfl rfl rfl rfl rfl rfl ⟨rfl, rfl, rfl, rfl, rfl⟩ rfl rfl rfl rfl rfl (by kernel_rfl) Try.func9 (by kernel_rfl)
    (of_decide_eq_true (by kernel_rfl)) (by unfold Func.isWrapper; first | (rw [if_pos (by decide +kernel)]; kernel_rfl) | (rw [if_neg (by decide +kernel)]; exact ⟨rfl, rfl⟩))
    (fun os started H enc _ => lifted os started H enc)

theorem proved : Rows.FnActsSaid := over
end Go.Proofs.Ytkakdldhinimoaa.fnActs

namespace Go.Proofs.Ytkakdldhinimoaa
theorem FnActs_holds : Rows.FnActsSaid := fnActs.proved
end Go.Proofs.Ytkakdldhinimoaa
