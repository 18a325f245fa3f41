/-
  The specification's draw of a datagram.
-/
import Derived.Test.YtjbjlmaeaajlhaaDz
import Derived.Test.YtjbjlmaeaajlhaaIr
import Derived.Deep.RegionWith
import Derived.Deep.DrawnRows
import Derived.Deep.Cut
namespace Go.Proofs.Ytjbjlmaeaajlhaa.Dr
open Go Go.RowKit
open Num Rw Mk Un Put Pl Pf
set_option linter.unusedVariables false
attribute [local go_sem ↓] Go.wp_at_zero Go.wp_at_succ

theorem set0 {w : World} {g : Nat} {v0 v1 v2 v3 v4 u : Value} {t : TypeId} (h : w.heap[g]? = some (.cells #[v0, v1, v2, v3, v4] t (0, 0))) : (w.setCell ⟨g, 0, none⟩ u).heap[g]? = some (.cells #[u, v1, v2, v3, v4] t (0, 0)) := by simpa using three_set (o := 0) h u
theorem set1 {w : World} {g : Nat} {v0 v1 v2 v3 v4 u : Value} {t : TypeId} (h : w.heap[g]? = some (.cells #[v0, v1, v2, v3, v4] t (0, 0))) : (w.setCell ⟨g, 1, none⟩ u).heap[g]? = some (.cells #[v0, u, v2, v3, v4] t (0, 0)) := by simpa using three_set (o := 1) h u
theorem set2 {w : World} {g : Nat} {v0 v1 v2 v3 v4 u : Value} {t : TypeId} (h : w.heap[g]? = some (.cells #[v0, v1, v2, v3, v4] t (0, 0))) : (w.setCell ⟨g, 2, none⟩ u).heap[g]? = some (.cells #[v0, v1, u, v3, v4] t (0, 0)) := by simpa using three_set (o := 2) h u
theorem set3 {w : World} {g : Nat} {v0 v1 v2 v3 v4 u : Value} {t : TypeId} (h : w.heap[g]? = some (.cells #[v0, v1, v2, v3, v4] t (0, 0))) : (w.setCell ⟨g, 3, none⟩ u).heap[g]? = some (.cells #[v0, v1, v2, u, v4] t (0, 0)) := by simpa using three_set (o := 3) h u
theorem set4 {w : World} {g : Nat} {v0 v1 v2 v3 v4 u : Value} {t : TypeId} (h : w.heap[g]? = some (.cells #[v0, v1, v2, v3, v4] t (0, 0))) : (w.setCell ⟨g, 4, none⟩ u).heap[g]? = some (.cells #[v0, v1, v2, v3, u] t (0, 0)) := by simpa using three_set (o := 4) h u
theorem far {w : World} {g : Nat} {ad : Addr} {u : Value} (hne : ¬ ad.block = g) : (w.setCell ad u).heap[g]? = w.heap[g]? := Below.heap_setCell w ad u g (fun e => hne e.symm)
theorem wset {w : World} {a : Option Addr} {g : Nat} {l : List Int} {ad : Addr} {u : Value} (h : Wt w a g l) (hne : l.length = 0 ∨ ¬ ad.block = g) : Wt (w.setCell ad u) a g l := by
  rcases hne with h0 | h0
  · exact ⟨h.head, fun i hi => by omega, fun i hi => by omega, h.size, h.byt⟩
  · exact Tg.wt_set h h0
theorem wt_eq {w : World} {g g' : Nat} {l : List Int} (e : g = g') (h : Wt w (some ⟨g, 0, none⟩) g l) : Wt w (some ⟨g', 0, none⟩) g' l := by subst e; exact h
theorem size_set (w : World) (ad : Addr) (u : Value) : (w.setCell ad u).heap.size = w.heap.size := by simp

/-- What a draw of a datagram leaves. -/
def Drawn (w : World) (g : Nat) (a : Option Addr) (b off cap : Nat) (l : List Int) (e : Ending) (w' : World) : Prop :=
  ∃ (t p s d : Int) (gb cap' : Nat) (q : List Int), e = .returned (.agg #[.int .i64 t, .int .i64 p, .int .i64 s, .int .i64 d, .slice (some ⟨gb, 0, none⟩) q.length cap']) ∧ Wt w' (some ⟨gb, 0, none⟩) gb q ∧ w.heap.size ≤ gb ∧ Cur w' g a b off cap l ∧ Only g w w'

theorem row5 (n : Nat) (h : n < 5) : ∃ U : Int, (#[.int .i64 6, .int .i64 17, .int .i64 1, .int .i64 255, .int .i64 0] : Array Value)[n]? = some (.int .i64 U) := by
  match n, h with
  | 0, _ => exact ⟨6, rfl⟩
  | 1, _ => exact ⟨17, rfl⟩
  | 2, _ => exact ⟨1, rfl⟩
  | 3, _ => exact ⟨255, rfl⟩
  | 4, _ => exact ⟨0, rfl⟩
theorem atR {V : World} {N n : Nat} {U : Int} (hN : V.heap.size = N) (hU : (#[.int .i64 6, .int .i64 17, .int .i64 1, .int .i64 255, .int .i64 0] : Array Value)[n]? = some (.int .i64 U)) : (V.alloc (.cells #[.int .i64 6, .int .i64 17, .int .i64 1, .int .i64 255, .int .i64 0] 3)).cell? ⟨N, n, none⟩ = some (.int .i64 U) := by
  subst hN
  simp only [World.cell?, heap_alloc_new]
  simpa using hU
theorem atRZ {V : World} {N n : Nat} {U : Int} (o : Obj) (hN : V.heap.size = N) (hU : (#[.int .i64 6, .int .i64 17, .int .i64 1, .int .i64 255, .int .i64 0] : Array Value)[n]? = some (.int .i64 U)) : ((V.alloc (.cells #[.int .i64 6, .int .i64 17, .int .i64 1, .int .i64 255, .int .i64 0] 3)).alloc o).cell? ⟨N, n, none⟩ = some (.int .i64 U) := by
  rw [← atR hN hU]
  exact World.cell?_of_block (Below.heap_alloc _ _ _ (by simp; omega))
theorem atZR {V : World} {N n : Nat} {U : Int} (o : Obj) (hN : V.heap.size = N) (hU : (#[.int .i64 6, .int .i64 17, .int .i64 1, .int .i64 255, .int .i64 0] : Array Value)[n]? = some (.int .i64 U)) : ((V.alloc o).alloc (.cells #[.int .i64 6, .int .i64 17, .int .i64 1, .int .i64 255, .int .i64 0] 3)).cell? ⟨N + 1, n, none⟩ = some (.int .i64 U) :=
  atR (by simp; omega) hU

set_option maxHeartbeats 16000000 in
theorem ip_head (g : Nat) (a : Option Addr) (b off cap : Nat) (l : List Int) (w : World) (h : Cur w g a b off cap l) :
    Calls Try.prog 69 #[.pointer (some ⟨g, 0, none⟩)] w (Drawn w g a b off cap l) := by
  have hgl := cur_lt h
  have hbl : l.length = 0 ∨ b < w.heap.size := rd_lt h.rd
  obtain ⟨W0, hW0⟩ : ∃ W0, W0 = w.alloc (.cells #[.int .i64 0, .int .i64 0, .int .i64 0, .int .i64 0, .slice none 0 0] 27) := ⟨_, rfl⟩
  have hC0 : Cur W0 g a b off cap l := by subst hW0; exact cur_alloc h _
  have hO0 : Only g w W0 := by subst hW0; exact only_alloc (Only.refl g w) _
  have kr : W0.heap[w.heap.size]? = some (.cells #[.int .i64 0, .int .i64 0, .int .i64 0, .int .i64 0, .slice none 0 0] 27 (0, 0)) := by subst hW0; exact at_new rfl
  have zr : w.heap.size < W0.heap.size := by subst hW0; simp
  obtain ⟨N0, hN0⟩ : ∃ N, W0.heap.size = N := ⟨_, rfl⟩
  have zN : w.heap.size < N0 := by omega
  have tok0 : True := trivial
  clear h
  go_enter Try.func69, Try.ntmps69
  go_wp2
  rw [← hW0]
  clear hW0
  go_cut [3] from 4 (fun s3 wx => ∃ (t p s d : Int) (X : Nat), s3 = .pointer (some ⟨X, 0, none⟩) ∧ wx.heap[X]? = some (.cells #[.int .i64 t, .int .i64 p, .int .i64 s, .int .i64 d, .slice none 0 0] 27 (0, 0)) ∧ Cur wx g a b off cap l ∧ Only g W0 wx ∧ N0 ≤ X)
  case first =>
    go_region_with (first
      | (go_at_call 70; clear tok3; (with_reducible refine (at2 V3 (.cells #[.int .i64 6, .int .i64 17, .int .i64 1, .int .i64 255, .int .i64 0] 3) (.cells #[.int .i64 0, .int .i64 0, .int .i64 0, .int .i64 0, .slice none 0 0] 27) 9 hC3 hN3 (by decide) (by decide)).mono ?_); rintro e w' ⟨x3, V4, rfl, x30, x31, hw', hC4, hO4, hN4⟩; dsimp only at hw'; replace hw' := hw'.symm; subst hw'; have r3a := atR hN4 HU.out; have r3b := atRZ (.cells #[.int .i64 0, .int .i64 0, .int .i64 0, .int .i64 0, .slice none 0 0] 27) hN4 HU.out; have r3c := atZR (.cells #[.int .i64 0, .int .i64 0, .int .i64 0, .int .i64 0, .slice none 0 0] 27) hN4 HU.out; have tok4 : True := trivial)
      | (go_at_call 70; clear tok3; (with_reducible refine (at2 V3 (.cells #[.int .i64 0, .int .i64 0, .int .i64 0, .int .i64 0, .slice none 0 0] 27) (.cells #[.int .i64 6, .int .i64 17, .int .i64 1, .int .i64 255, .int .i64 0] 3) 9 hC3 hN3 (by decide) (by decide)).mono ?_); rintro e w' ⟨x3, V4, rfl, x30, x31, hw', hC4, hO4, hN4⟩; dsimp only at hw'; replace hw' := hw'.symm; subst hw'; have r3a := atR hN4 HU.out; have r3b := atRZ (.cells #[.int .i64 0, .int .i64 0, .int .i64 0, .int .i64 0, .slice none 0 0] 27) hN4 HU.out; have r3c := atZR (.cells #[.int .i64 0, .int .i64 0, .int .i64 0, .int .i64 0, .slice none 0 0] 27) hN4 HU.out; have tok4 : True := trivial)
      | (go_at_call 70; clear tok3; (with_reducible refine (at1 V3 (.cells #[.int .i64 6, .int .i64 17, .int .i64 1, .int .i64 255, .int .i64 0] 3) 9 hC3 hN3 (by decide) (by decide)).mono ?_); rintro e w' ⟨x3, V4, rfl, x30, x31, hw', hC4, hO4, hN4⟩; dsimp only at hw'; replace hw' := hw'.symm; subst hw'; have r3a := atR hN4 HU.out; have r3b := atRZ (.cells #[.int .i64 0, .int .i64 0, .int .i64 0, .int .i64 0, .slice none 0 0] 27) hN4 HU.out; have r3c := atZR (.cells #[.int .i64 0, .int .i64 0, .int .i64 0, .int .i64 0, .slice none 0 0] 27) hN4 HU.out; have tok4 : True := trivial)
      | (go_at_call 70; clear tok3; (with_reducible refine (at1 V3 (.cells #[.int .i64 0, .int .i64 0, .int .i64 0, .int .i64 0, .slice none 0 0] 27) 9 hC3 hN3 (by decide) (by decide)).mono ?_); rintro e w' ⟨x3, V4, rfl, x30, x31, hw', hC4, hO4, hN4⟩; dsimp only at hw'; replace hw' := hw'.symm; subst hw'; have r3a := atR hN4 HU.out; have r3b := atRZ (.cells #[.int .i64 0, .int .i64 0, .int .i64 0, .int .i64 0, .slice none 0 0] 27) hN4 HU.out; have r3c := atZR (.cells #[.int .i64 0, .int .i64 0, .int .i64 0, .int .i64 0, .slice none 0 0] 27) hN4 HU.out; have tok4 : True := trivial)
      | (go_at_call 70; clear tok3; (with_reducible refine (at0 V3 9 hC3 hN3 (by decide) (by decide)).mono ?_); rintro e w' ⟨x3, V4, rfl, x30, x31, hw', hC4, hO4, hN4⟩; dsimp only at hw'; replace hw' := hw'.symm; subst hw'; have r3a := atR hN4 HU.out; have r3b := atRZ (.cells #[.int .i64 0, .int .i64 0, .int .i64 0, .int .i64 0, .slice none 0 0] 27) hN4 HU.out; have r3c := atZR (.cells #[.int .i64 0, .int .i64 0, .int .i64 0, .int .i64 0, .slice none 0 0] 27) hN4 HU.out; have tok4 : True := trivial)
      | (go_at_call 70; clear tok2; (with_reducible refine (at2 V2 (.cells #[.int .i64 6, .int .i64 17, .int .i64 1, .int .i64 255, .int .i64 0] 3) (.cells #[.int .i64 0, .int .i64 0, .int .i64 0, .int .i64 0, .slice none 0 0] 27) 9 hC2 hN2 (by decide) (by decide)).mono ?_); rintro e w' ⟨x2, V3, rfl, x20, x21, hw', hC3, hO3, hN3⟩; dsimp only at hw'; replace hw' := hw'.symm; subst hw'; have r2a := atR hN3 HU.out; have r2b := atRZ (.cells #[.int .i64 0, .int .i64 0, .int .i64 0, .int .i64 0, .slice none 0 0] 27) hN3 HU.out; have r2c := atZR (.cells #[.int .i64 0, .int .i64 0, .int .i64 0, .int .i64 0, .slice none 0 0] 27) hN3 HU.out; have tok3 : True := trivial)
      | (go_at_call 70; clear tok2; (with_reducible refine (at2 V2 (.cells #[.int .i64 0, .int .i64 0, .int .i64 0, .int .i64 0, .slice none 0 0] 27) (.cells #[.int .i64 6, .int .i64 17, .int .i64 1, .int .i64 255, .int .i64 0] 3) 9 hC2 hN2 (by decide) (by decide)).mono ?_); rintro e w' ⟨x2, V3, rfl, x20, x21, hw', hC3, hO3, hN3⟩; dsimp only at hw'; replace hw' := hw'.symm; subst hw'; have r2a := atR hN3 HU.out; have r2b := atRZ (.cells #[.int .i64 0, .int .i64 0, .int .i64 0, .int .i64 0, .slice none 0 0] 27) hN3 HU.out; have r2c := atZR (.cells #[.int .i64 0, .int .i64 0, .int .i64 0, .int .i64 0, .slice none 0 0] 27) hN3 HU.out; have tok3 : True := trivial)
      | (go_at_call 70; clear tok2; (with_reducible refine (at1 V2 (.cells #[.int .i64 6, .int .i64 17, .int .i64 1, .int .i64 255, .int .i64 0] 3) 9 hC2 hN2 (by decide) (by decide)).mono ?_); rintro e w' ⟨x2, V3, rfl, x20, x21, hw', hC3, hO3, hN3⟩; dsimp only at hw'; replace hw' := hw'.symm; subst hw'; have r2a := atR hN3 HU.out; have r2b := atRZ (.cells #[.int .i64 0, .int .i64 0, .int .i64 0, .int .i64 0, .slice none 0 0] 27) hN3 HU.out; have r2c := atZR (.cells #[.int .i64 0, .int .i64 0, .int .i64 0, .int .i64 0, .slice none 0 0] 27) hN3 HU.out; have tok3 : True := trivial)
      | (go_at_call 70; clear tok2; (with_reducible refine (at1 V2 (.cells #[.int .i64 0, .int .i64 0, .int .i64 0, .int .i64 0, .slice none 0 0] 27) 9 hC2 hN2 (by decide) (by decide)).mono ?_); rintro e w' ⟨x2, V3, rfl, x20, x21, hw', hC3, hO3, hN3⟩; dsimp only at hw'; replace hw' := hw'.symm; subst hw'; have r2a := atR hN3 HU.out; have r2b := atRZ (.cells #[.int .i64 0, .int .i64 0, .int .i64 0, .int .i64 0, .slice none 0 0] 27) hN3 HU.out; have r2c := atZR (.cells #[.int .i64 0, .int .i64 0, .int .i64 0, .int .i64 0, .slice none 0 0] 27) hN3 HU.out; have tok3 : True := trivial)
      | (go_at_call 70; clear tok2; (with_reducible refine (at0 V2 9 hC2 hN2 (by decide) (by decide)).mono ?_); rintro e w' ⟨x2, V3, rfl, x20, x21, hw', hC3, hO3, hN3⟩; dsimp only at hw'; replace hw' := hw'.symm; subst hw'; have r2a := atR hN3 HU.out; have r2b := atRZ (.cells #[.int .i64 0, .int .i64 0, .int .i64 0, .int .i64 0, .slice none 0 0] 27) hN3 HU.out; have r2c := atZR (.cells #[.int .i64 0, .int .i64 0, .int .i64 0, .int .i64 0, .slice none 0 0] 27) hN3 HU.out; have tok3 : True := trivial)
      | (go_at_call 70; clear tok1; (with_reducible refine (at2 V1 (.cells #[.int .i64 6, .int .i64 17, .int .i64 1, .int .i64 255, .int .i64 0] 3) (.cells #[.int .i64 0, .int .i64 0, .int .i64 0, .int .i64 0, .slice none 0 0] 27) 5 hC1 hN1 (by decide) (by decide)).mono ?_); rintro e w' ⟨x1, V2, rfl, x10, x11, hw', hC2, hO2, hN2⟩; dsimp only at hw'; replace hw' := hw'.symm; subst hw'; obtain ⟨n8, hn8⟩ : ∃ n : Nat, x1 = n := ⟨x1.toNat, (by omega)⟩; subst hn8; obtain ⟨U, hU⟩ := row5 n8 (by omega); have HU := hid_mk hU; clear hU; have r1a := atR hN2 HU.out; have r1b := atRZ (.cells #[.int .i64 0, .int .i64 0, .int .i64 0, .int .i64 0, .slice none 0 0] 27) hN2 HU.out; have r1c := atZR (.cells #[.int .i64 0, .int .i64 0, .int .i64 0, .int .i64 0, .slice none 0 0] 27) hN2 HU.out; have tok2 : True := trivial)
      | (go_at_call 70; clear tok1; (with_reducible refine (at2 V1 (.cells #[.int .i64 0, .int .i64 0, .int .i64 0, .int .i64 0, .slice none 0 0] 27) (.cells #[.int .i64 6, .int .i64 17, .int .i64 1, .int .i64 255, .int .i64 0] 3) 5 hC1 hN1 (by decide) (by decide)).mono ?_); rintro e w' ⟨x1, V2, rfl, x10, x11, hw', hC2, hO2, hN2⟩; dsimp only at hw'; replace hw' := hw'.symm; subst hw'; obtain ⟨n8, hn8⟩ : ∃ n : Nat, x1 = n := ⟨x1.toNat, (by omega)⟩; subst hn8; obtain ⟨U, hU⟩ := row5 n8 (by omega); have HU := hid_mk hU; clear hU; have r1a := atR hN2 HU.out; have r1b := atRZ (.cells #[.int .i64 0, .int .i64 0, .int .i64 0, .int .i64 0, .slice none 0 0] 27) hN2 HU.out; have r1c := atZR (.cells #[.int .i64 0, .int .i64 0, .int .i64 0, .int .i64 0, .slice none 0 0] 27) hN2 HU.out; have tok2 : True := trivial)
      | (go_at_call 70; clear tok1; (with_reducible refine (at1 V1 (.cells #[.int .i64 6, .int .i64 17, .int .i64 1, .int .i64 255, .int .i64 0] 3) 5 hC1 hN1 (by decide) (by decide)).mono ?_); rintro e w' ⟨x1, V2, rfl, x10, x11, hw', hC2, hO2, hN2⟩; dsimp only at hw'; replace hw' := hw'.symm; subst hw'; obtain ⟨n8, hn8⟩ : ∃ n : Nat, x1 = n := ⟨x1.toNat, (by omega)⟩; subst hn8; obtain ⟨U, hU⟩ := row5 n8 (by omega); have HU := hid_mk hU; clear hU; have r1a := atR hN2 HU.out; have r1b := atRZ (.cells #[.int .i64 0, .int .i64 0, .int .i64 0, .int .i64 0, .slice none 0 0] 27) hN2 HU.out; have r1c := atZR (.cells #[.int .i64 0, .int .i64 0, .int .i64 0, .int .i64 0, .slice none 0 0] 27) hN2 HU.out; have tok2 : True := trivial)
      | (go_at_call 70; clear tok1; (with_reducible refine (at1 V1 (.cells #[.int .i64 0, .int .i64 0, .int .i64 0, .int .i64 0, .slice none 0 0] 27) 5 hC1 hN1 (by decide) (by decide)).mono ?_); rintro e w' ⟨x1, V2, rfl, x10, x11, hw', hC2, hO2, hN2⟩; dsimp only at hw'; replace hw' := hw'.symm; subst hw'; obtain ⟨n8, hn8⟩ : ∃ n : Nat, x1 = n := ⟨x1.toNat, (by omega)⟩; subst hn8; obtain ⟨U, hU⟩ := row5 n8 (by omega); have HU := hid_mk hU; clear hU; have r1a := atR hN2 HU.out; have r1b := atRZ (.cells #[.int .i64 0, .int .i64 0, .int .i64 0, .int .i64 0, .slice none 0 0] 27) hN2 HU.out; have r1c := atZR (.cells #[.int .i64 0, .int .i64 0, .int .i64 0, .int .i64 0, .slice none 0 0] 27) hN2 HU.out; have tok2 : True := trivial)
      | (go_at_call 70; clear tok1; (with_reducible refine (at0 V1 5 hC1 hN1 (by decide) (by decide)).mono ?_); rintro e w' ⟨x1, V2, rfl, x10, x11, hw', hC2, hO2, hN2⟩; dsimp only at hw'; replace hw' := hw'.symm; subst hw'; obtain ⟨n8, hn8⟩ : ∃ n : Nat, x1 = n := ⟨x1.toNat, (by omega)⟩; subst hn8; obtain ⟨U, hU⟩ := row5 n8 (by omega); have HU := hid_mk hU; clear hU; have r1a := atR hN2 HU.out; have r1b := atRZ (.cells #[.int .i64 0, .int .i64 0, .int .i64 0, .int .i64 0, .slice none 0 0] 27) hN2 HU.out; have r1c := atZR (.cells #[.int .i64 0, .int .i64 0, .int .i64 0, .int .i64 0, .slice none 0 0] 27) hN2 HU.out; have tok2 : True := trivial)
      | (go_at_call 70; clear tok0; (with_reducible refine (at2d W0 (.cells #[.int .i64 6, .int .i64 17, .int .i64 1, .int .i64 255, .int .i64 0] 3) (.cells #[.int .i64 0, .int .i64 0, .int .i64 0, .int .i64 0, .slice none 0 0] 27) 256 hC0 hN0 (by decide) (by decide)).mono ?_); rintro e w' ⟨x0, V1, rfl, x00, x01, hw', hC1, hO1, hN1⟩; dsimp only at hw'; replace hw' := hw'.symm; subst hw'; have tok1 : True := trivial)
      | (go_at_call 70; clear tok0; (with_reducible refine (at2d W0 (.cells #[.int .i64 0, .int .i64 0, .int .i64 0, .int .i64 0, .slice none 0 0] 27) (.cells #[.int .i64 6, .int .i64 17, .int .i64 1, .int .i64 255, .int .i64 0] 3) 256 hC0 hN0 (by decide) (by decide)).mono ?_); rintro e w' ⟨x0, V1, rfl, x00, x01, hw', hC1, hO1, hN1⟩; dsimp only at hw'; replace hw' := hw'.symm; subst hw'; have tok1 : True := trivial)
      | (go_at_call 70; clear tok0; (with_reducible refine (at1d W0 (.cells #[.int .i64 6, .int .i64 17, .int .i64 1, .int .i64 255, .int .i64 0] 3) 256 hC0 hN0 (by decide) (by decide)).mono ?_); rintro e w' ⟨x0, V1, rfl, x00, x01, hw', hC1, hO1, hN1⟩; dsimp only at hw'; replace hw' := hw'.symm; subst hw'; have tok1 : True := trivial)
      | (go_at_call 70; clear tok0; (with_reducible refine (at1d W0 (.cells #[.int .i64 0, .int .i64 0, .int .i64 0, .int .i64 0, .slice none 0 0] 27) 256 hC0 hN0 (by decide) (by decide)).mono ?_); rintro e w' ⟨x0, V1, rfl, x00, x01, hw', hC1, hO1, hN1⟩; dsimp only at hw'; replace hw' := hw'.symm; subst hw'; have tok1 : True := trivial)
      | (go_at_call 70; clear tok0; (with_reducible refine (at0d W0 256 hC0 hN0 (by decide) (by decide)).mono ?_); rintro e w' ⟨x0, V1, rfl, x00, x01, hw', hC1, hO1, hN1⟩; dsimp only at hw'; replace hw' := hw'.symm; subst hw'; have tok1 : True := trivial))
    all_goals
      go_wp2_with fail
      go_meet
      have HO4 := only_trans (only_trans (only_trans hO1 hO2) hO3) hO4
      first
        | exact ⟨x0, U, x2, x3, N0 + 1, rfl, at_new (by simp; omega), cur_alloc (cur_alloc hC4 _) _, only_alloc (only_alloc HO4 _) _, by omega⟩
        | exact ⟨x0, U, x2, x3, N0, rfl, (at_old (by simp; omega)).trans (at_new hN4.symm), cur_alloc (cur_alloc hC4 _) _, only_alloc (only_alloc HO4 _) _, Nat.le_refl _⟩
  case rest =>
    obtain ⟨t, p, s, d, X, rfl, kp, hC, hO1, hX⟩ := hcut
    have zX : w.heap.size < X := by omega
    have zp := lt_of_block kp
    replace kr := (k_of hO1 zr (by omega)).trans kr
    replace zr := Nat.lt_of_lt_of_le zr hO1.size
    have hO := only_trans hO0 hO1
    clear hO0 hO1 hC0 hN0 tok0
    have tokS : True := trivial
    go_wp2_with (go_at_call 70; clear tokS; refine (below_any _ _ _ _ _ _ _ _ hC (by omega) (by omega)).mono ?_; rintro e w1 ⟨k, rfl, k0, k1, hCn, hOn⟩; replace kr := (k_of hOn zr (by omega)).trans kr; replace zr := Nat.lt_of_lt_of_le zr hOn.size; replace kp := (k_of hOn zp (by omega)).trans kp; replace zp := Nat.lt_of_lt_of_le zp hOn.size; replace hO := only_trans hO hOn; clear hC hOn; have hC := hCn; clear hCn)
    · have tokC : True := trivial
      go_wp2_with (go_at_call 70; clear tokC; refine (below_any _ _ _ _ _ _ _ _ hC (by omega) (by omega)).mono ?_; rintro e w2 ⟨y, rfl, y0, y1, hCn, hOn⟩; replace kr := (k_of hOn zr (by omega)).trans kr; replace zr := Nat.lt_of_lt_of_le zr hOn.size; replace kp := (k_of hOn zp (by omega)).trans kp; replace zp := Nat.lt_of_lt_of_le zp hOn.size; replace hO := only_trans hO hOn; clear hC hOn; have hC := hCn; clear hCn; obtain ⟨p0, p1, p2, p3, p4⟩ := five kp; have fp := Bl.free kp)
      clear p0 p1 p2 p3 p4 fp
      have hO' := only_set (p := X) (o := 2) (u := (.int .i64 (4294967295 - y))) hO (by omega)
      have hC' := cur_set (p := X) (o := 2) (u := (.int .i64 (4294967295 - y))) hC (Nat.le_of_lt zX) hgl hbl
      have kp' := set2 (u := (.int .i64 (4294967295 - y))) kp
      have kr' := (far (ad := ⟨X, 2, none⟩) (u := (.int .i64 (4294967295 - y))) (by simp; omega)).trans kr
      have zp' : X < (w2.setCell ⟨X, 2, none⟩ (.int .i64 (4294967295 - y))).heap.size := by rw [size_set]; exact zp
      have zr' : w.heap.size < (w2.setCell ⟨X, 2, none⟩ (.int .i64 (4294967295 - y))).heap.size := by rw [size_set]; exact zr
      clear hO hC kp kr zp zr
      have hO := hO'; have hC := hC'; have kp := kp'; have kr := kr'; have zp := zp'; have zr := zr'
      clear hO' hC' kp' kr' zp' zr'
      have tokD : True := trivial
      go_wp2_with (go_at_call 70; clear tokD; refine (below_any _ _ _ _ _ _ _ _ hC (by omega) (by omega)).mono ?_; rintro e w3 ⟨v, rfl, v0, v1, hCn, hOn⟩; replace kr := (k_of hOn zr (by omega)).trans kr; replace zr := Nat.lt_of_lt_of_le zr hOn.size; replace kp := (k_of hOn zp (by omega)).trans kp; replace zp := Nat.lt_of_lt_of_le zp hOn.size; replace hO := only_trans hO hOn; clear hC hOn; have hC := hCn; clear hCn; obtain ⟨p0, p1, p2, p3, p4⟩ := five kp; have fp := Bl.free kp)
      clear p0 p1 p2 p3 p4 fp
      have hO' := only_set (p := X) (o := 3) (u := (.int .i64 (167772160 + v))) hO (by omega)
      have hC' := cur_set (p := X) (o := 3) (u := (.int .i64 (167772160 + v))) hC (Nat.le_of_lt zX) hgl hbl
      have kp' := set3 (u := (.int .i64 (167772160 + v))) kp
      have kr' := (far (ad := ⟨X, 3, none⟩) (u := (.int .i64 (167772160 + v))) (by simp; omega)).trans kr
      have zp' : X < (w3.setCell ⟨X, 3, none⟩ (.int .i64 (167772160 + v))).heap.size := by rw [size_set]; exact zp
      have zr' : w.heap.size < (w3.setCell ⟨X, 3, none⟩ (.int .i64 (167772160 + v))).heap.size := by rw [size_set]; exact zr
      clear hO hC kp kr zp zr
      have hO := hO'; have hC := hC'; have kp := kp'; have kr := kr'; have zp := zp'; have zr := zr'
      clear hO' hC' kp' kr' zp' zr'
      go_wp2_with (go_at_call 73; refine (bytes_any _ _ _ _ _ _ 30 _ hC (by omega)).mono ?_; rintro e w5 ⟨gb, cb, q, rfl, hW, hgb, hq, hCn, hOn⟩; have hpg := Nat.lt_of_lt_of_le zp hgb; have hrg := Nat.lt_of_lt_of_le zr hgb; (try clear p0 p1 p2 p3 p4 fp); replace kr := (k_of hOn zr (by omega)).trans kr; replace zr := Nat.lt_of_lt_of_le zr hOn.size; replace kp := (k_of hOn zp (by omega)).trans kp; replace zp := Nat.lt_of_lt_of_le zp hOn.size; replace hO := only_trans hO hOn; clear hC hOn; have hC := hCn; clear hCn; obtain ⟨p0, p1, p2, p3, p4⟩ := five kp; have fp := Bl.free kp)
      clear p0 p1 p2 p3 p4 fp
      have hO' := only_set (p := X) (o := 4) (u := (.slice (some ⟨gb, 0, none⟩) q.length cb)) hO (by omega)
      have hC' := cur_set (p := X) (o := 4) (u := (.slice (some ⟨gb, 0, none⟩) q.length cb)) hC (Nat.le_of_lt zX) hgl hbl
      have kp' := set4 (u := (.slice (some ⟨gb, 0, none⟩) q.length cb)) kp
      have kr' := (far (ad := ⟨X, 4, none⟩) (u := (.slice (some ⟨gb, 0, none⟩) q.length cb)) (by simp; omega)).trans kr
      have zp' : X < (w5.setCell ⟨X, 4, none⟩ (.slice (some ⟨gb, 0, none⟩) q.length cb)).heap.size := by rw [size_set]; exact zp
      have zr' : w.heap.size < (w5.setCell ⟨X, 4, none⟩ (.slice (some ⟨gb, 0, none⟩) q.length cb)).heap.size := by rw [size_set]; exact zr
      replace hW := wset (ad := ⟨X, 4, none⟩) (u := (.slice (some ⟨gb, 0, none⟩) q.length cb)) hW (.inr (by simp; omega))
      clear hO hC kp kr zp zr
      have hO := hO'; have hC := hC'; have kp := kp'; have kr := kr'; have zp := zp'; have zr := zr'
      clear hO' hC' kp' kr' zp' zr'
      clear hgb
      have tokA : True := trivial
      go_wp2_with (first | (go_at_call 70; clear tokA; refine (below_any _ _ _ _ _ _ _ _ hC (by omega) (by omega)).mono ?_; rintro e w6 ⟨z, rfl, z0, z1, hCn, hOn⟩; replace hW := wt_of hOn hW (by omega); replace kr := (k_of hOn zr (by omega)).trans kr; replace zr := Nat.lt_of_lt_of_le zr hOn.size; replace kp := (k_of hOn zp (by omega)).trans kp; replace zp := Nat.lt_of_lt_of_le zp hOn.size; replace hO := only_trans hO hOn; clear hC hOn; have hC := hCn; clear hCn; obtain ⟨p0, p1, p2, p3, p4⟩ := five kp; have fp := Bl.free kp; obtain ⟨r0, r1, r2, r3, r4⟩ := five kr; have fr := Bl.free kr; have tokB : True := trivial) | (go_at_call 70; clear tokB; refine (below_any _ _ _ _ _ _ _ _ hC (by omega) (by omega)).mono ?_; rintro e w7 ⟨m, rfl, m0, m1, hCn, hOn⟩; clear p0 p1 p2 p3 p4 fp r0 r1 r2 r3 r4 fr hW; replace kr := (k_of hOn zr (by omega)).trans kr; replace zr := Nat.lt_of_lt_of_le zr hOn.size; replace kp := (k_of hOn zp (by omega)).trans kp; replace zp := Nat.lt_of_lt_of_le zp hOn.size; replace hO := only_trans hO hOn; clear hC hOn; have hC := hCn; clear hCn; obtain ⟨M, hM⟩ : ∃ M : Nat, (1480 : Int) - m = M := ⟨(1480 - m).toNat, (by omega)⟩; have hM2 : M ≤ 1480 := (by omega); have hmk := run_make_row' (P := Try.prog) 22 5 (.int .u8 0) 1 Try.underlying22 info5 rfl .i64 .i64 M (by omega) (by omega); obtain ⟨p0, p1, p2, p3, p4⟩ := five kp; have fp := Bl.free kp; obtain ⟨r0, r1, r2, r3, r4⟩ := five kr; have fr := Bl.free kr))
      · refine bodyPost_ret (v := .agg #[.int .i64 t, .int .i64 p, .int .i64 (4294967295 - y), .int .i64 (167772160 + v), (.slice (some ⟨w7.heap.size, 0, none⟩) M M)]) (by simp [results, Try.results69, go_sem, zr, r0, r1, r2, r3, r4]) rfl ⟨t, p, (4294967295 - y), (167772160 + v), w7.heap.size, M, List.replicate M 0, by rw [List.length_replicate], ?_, by omega, ?_, ?_⟩
        · exact wt_eq (by simp) (mine_wt (mine_made _ M (by omega)))
        · exact cur_alloc (cur_set (cur_set (cur_set (cur_set (cur_set (cur_set hC (Nat.le_of_lt zX) hgl hbl) (Nat.le_refl _) hgl hbl) (Nat.le_refl _) hgl hbl) (Nat.le_refl _) hgl hbl) (Nat.le_refl _) hgl hbl) (Nat.le_refl _) hgl hbl) _
        · exact only_alloc (only_set (only_set (only_set (only_set (only_set (only_set hO (Nat.le_of_lt zX)) (Nat.le_refl _)) (Nat.le_refl _)) (Nat.le_refl _)) (Nat.le_refl _)) (Nat.le_refl _)) _
      · refine bodyPost_ret (v := .agg #[.int .i64 t, .int .i64 p, .int .i64 (4294967295 - y), .int .i64 (167772160 + v), (.slice (some ⟨gb, 0, none⟩) q.length cb)]) (by simp [results, Try.results69, go_sem, r0, r1, r2, r3, r4]) rfl ⟨t, p, (4294967295 - y), (167772160 + v), gb, cb, q, rfl, ?_, by omega, ?_, ?_⟩
        · exact wset (wset (wset (wset (wset (hW) (.inr (by simp; omega))) (.inr (by simp; omega))) (.inr (by simp; omega))) (.inr (by simp; omega))) (.inr (by simp; omega))
        · exact cur_set (cur_set (cur_set (cur_set (cur_set (hC) (Nat.le_refl _) hgl hbl) (Nat.le_refl _) hgl hbl) (Nat.le_refl _) hgl hbl) (Nat.le_refl _) hgl hbl) (Nat.le_refl _) hgl hbl
        · exact only_set (only_set (only_set (only_set (only_set (hO) (Nat.le_refl _)) (Nat.le_refl _)) (Nat.le_refl _)) (Nat.le_refl _)) (Nat.le_refl _)
    · go_wp2_with (go_at_call 73; refine (bytes_any _ _ _ _ _ _ 30 _ hC (by omega)).mono ?_; rintro e w5 ⟨gb, cb, q, rfl, hW, hgb, hq, hCn, hOn⟩; have hpg := Nat.lt_of_lt_of_le zp hgb; have hrg := Nat.lt_of_lt_of_le zr hgb; (try clear p0 p1 p2 p3 p4 fp); replace kr := (k_of hOn zr (by omega)).trans kr; replace zr := Nat.lt_of_lt_of_le zr hOn.size; replace kp := (k_of hOn zp (by omega)).trans kp; replace zp := Nat.lt_of_lt_of_le zp hOn.size; replace hO := only_trans hO hOn; clear hC hOn; have hC := hCn; clear hCn; obtain ⟨p0, p1, p2, p3, p4⟩ := five kp; have fp := Bl.free kp)
      clear p0 p1 p2 p3 p4 fp
      have hO' := only_set (p := X) (o := 4) (u := (.slice (some ⟨gb, 0, none⟩) q.length cb)) hO (by omega)
      have hC' := cur_set (p := X) (o := 4) (u := (.slice (some ⟨gb, 0, none⟩) q.length cb)) hC (Nat.le_of_lt zX) hgl hbl
      have kp' := set4 (u := (.slice (some ⟨gb, 0, none⟩) q.length cb)) kp
      have kr' := (far (ad := ⟨X, 4, none⟩) (u := (.slice (some ⟨gb, 0, none⟩) q.length cb)) (by simp; omega)).trans kr
      have zp' : X < (w5.setCell ⟨X, 4, none⟩ (.slice (some ⟨gb, 0, none⟩) q.length cb)).heap.size := by rw [size_set]; exact zp
      have zr' : w.heap.size < (w5.setCell ⟨X, 4, none⟩ (.slice (some ⟨gb, 0, none⟩) q.length cb)).heap.size := by rw [size_set]; exact zr
      replace hW := wset (ad := ⟨X, 4, none⟩) (u := (.slice (some ⟨gb, 0, none⟩) q.length cb)) hW (.inr (by simp; omega))
      clear hO hC kp kr zp zr
      have hO := hO'; have hC := hC'; have kp := kp'; have kr := kr'; have zp := zp'; have zr := zr'
      clear hO' hC' kp' kr' zp' zr'
      clear hgb
      have tokA : True := trivial
      go_wp2_with (first | (go_at_call 70; clear tokA; refine (below_any _ _ _ _ _ _ _ _ hC (by omega) (by omega)).mono ?_; rintro e w6 ⟨z, rfl, z0, z1, hCn, hOn⟩; replace hW := wt_of hOn hW (by omega); replace kr := (k_of hOn zr (by omega)).trans kr; replace zr := Nat.lt_of_lt_of_le zr hOn.size; replace kp := (k_of hOn zp (by omega)).trans kp; replace zp := Nat.lt_of_lt_of_le zp hOn.size; replace hO := only_trans hO hOn; clear hC hOn; have hC := hCn; clear hCn; obtain ⟨p0, p1, p2, p3, p4⟩ := five kp; have fp := Bl.free kp; obtain ⟨r0, r1, r2, r3, r4⟩ := five kr; have fr := Bl.free kr; have tokB : True := trivial) | (go_at_call 70; clear tokB; refine (below_any _ _ _ _ _ _ _ _ hC (by omega) (by omega)).mono ?_; rintro e w7 ⟨m, rfl, m0, m1, hCn, hOn⟩; clear p0 p1 p2 p3 p4 fp r0 r1 r2 r3 r4 fr hW; replace kr := (k_of hOn zr (by omega)).trans kr; replace zr := Nat.lt_of_lt_of_le zr hOn.size; replace kp := (k_of hOn zp (by omega)).trans kp; replace zp := Nat.lt_of_lt_of_le zp hOn.size; replace hO := only_trans hO hOn; clear hC hOn; have hC := hCn; clear hCn; obtain ⟨M, hM⟩ : ∃ M : Nat, (1480 : Int) - m = M := ⟨(1480 - m).toNat, (by omega)⟩; have hM2 : M ≤ 1480 := (by omega); have hmk := run_make_row' (P := Try.prog) 22 5 (.int .u8 0) 1 Try.underlying22 info5 rfl .i64 .i64 M (by omega) (by omega); obtain ⟨p0, p1, p2, p3, p4⟩ := five kp; have fp := Bl.free kp; obtain ⟨r0, r1, r2, r3, r4⟩ := five kr; have fr := Bl.free kr))
      · refine bodyPost_ret (v := .agg #[.int .i64 t, .int .i64 p, .int .i64 s, .int .i64 d, (.slice (some ⟨w7.heap.size, 0, none⟩) M M)]) (by simp [results, Try.results69, go_sem, zr, r0, r1, r2, r3, r4]) rfl ⟨t, p, s, d, w7.heap.size, M, List.replicate M 0, by rw [List.length_replicate], ?_, by omega, ?_, ?_⟩
        · exact wt_eq (by simp) (mine_wt (mine_made _ M (by omega)))
        · exact cur_alloc (cur_set (cur_set (cur_set (cur_set (cur_set (cur_set hC (Nat.le_of_lt zX) hgl hbl) (Nat.le_refl _) hgl hbl) (Nat.le_refl _) hgl hbl) (Nat.le_refl _) hgl hbl) (Nat.le_refl _) hgl hbl) (Nat.le_refl _) hgl hbl) _
        · exact only_alloc (only_set (only_set (only_set (only_set (only_set (only_set hO (Nat.le_of_lt zX)) (Nat.le_refl _)) (Nat.le_refl _)) (Nat.le_refl _)) (Nat.le_refl _)) (Nat.le_refl _)) _
      · refine bodyPost_ret (v := .agg #[.int .i64 t, .int .i64 p, .int .i64 s, .int .i64 d, (.slice (some ⟨gb, 0, none⟩) q.length cb)]) (by simp [results, Try.results69, go_sem, r0, r1, r2, r3, r4]) rfl ⟨t, p, s, d, gb, cb, q, rfl, ?_, by omega, ?_, ?_⟩
        · exact wset (wset (wset (wset (wset (hW) (.inr (by simp; omega))) (.inr (by simp; omega))) (.inr (by simp; omega))) (.inr (by simp; omega))) (.inr (by simp; omega))
        · exact cur_set (cur_set (cur_set (cur_set (cur_set (hC) (Nat.le_refl _) hgl hbl) (Nat.le_refl _) hgl hbl) (Nat.le_refl _) hgl hbl) (Nat.le_refl _) hgl hbl) (Nat.le_refl _) hgl hbl
        · exact only_set (only_set (only_set (only_set (only_set (hO) (Nat.le_refl _)) (Nat.le_refl _)) (Nat.le_refl _)) (Nat.le_refl _)) (Nat.le_refl _)

end Go.Proofs.Ytjbjlmaeaajlhaa.Dr
