/-
  Contracts of the specification's draws of packets.
-/
import Derived.Test.YthgbjbebjjeddaaDrawb
import Derived.Test.YthgbjbebjjeddaaTg
namespace Go.Proofs.Ythgbjbebjjeddaa.Dr
open Go Go.RowKit
open Num Rw Mk Un Put Pl Pf

theorem cur_set {w : World} {B g p o : Nat} {a : Option Addr} {b off cap : Nat} {l : List Int} {u : Value} (h : Cur w g a b off cap l) (hp : B ≤ p) (hg : g < B) (hb : l.length = 0 ∨ b < B) : Cur (w.setCell ⟨p, o, none⟩ u) g a b off cap l :=
  cur_keep (B := B) h (fun k hk => Below.heap_setCell w ⟨p, o, none⟩ u k (fun e => by simp at e; omega)) hg hb
theorem cur_alloc {w : World} {g : Nat} {a : Option Addr} {b off cap : Nat} {l : List Int} (h : Cur w g a b off cap l) (o : Obj) : Cur (w.alloc o) g a b off cap l :=
  cur_keep (B := w.heap.size) h (fun k hk => Below.heap_alloc w o k hk) (cur_lt h) (rd_lt h.rd)
theorem only_set {g p o : Nat} {w w1 : World} {u : Value} (h : Only g w w1) (hp : w.heap.size ≤ p) : Only g w (w1.setCell ⟨p, o, none⟩ u) :=
  ⟨h.os, h.tape, h.output, by simpa using h.size, fun k hk hne => (Below.heap_setCell w1 _ u k (fun e => by simp at e; omega)).trans (h.block k hk hne)⟩
theorem k_of {g k : Nat} {w w' : World} (h : Only g w w') (hk : k < w.heap.size) (hne : k ≠ g) : w'.heap[k]? = w.heap[k]? := h.block k hk (by simpa using hne)
theorem wt_of {g : Nat} {w w' : World} {a : Option Addr} {b : Nat} {l : List Int} (h : Only g w w') (hr : Wt w a b l) (hne : b ≠ g) : Wt w' a b l := wt_only h hr (.inr hne)

set_option maxHeartbeats 1000000 in
theorem num6_any (g : Nat) (a : Option Addr) (b off cap : Nat) (l : List Int) (w : World) (h : Cur w g a b off cap l) :
    Calls Try.prog 77 #[.pointer (some ⟨g, 0, none⟩)] w fun e w' => ∃ x : Int, e = .returned (.int .i64 x) ∧ 0 ≤ x ∧ x ≤ 281474976710655 ∧ Cur w' g a b off cap l ∧ Only g w w' := by
  go_enter Try.func77, Try.ntmps77
  go_wp2_with (first | (go_at_call 36; clear tok1) | (go_at_call 36; refine (below_any _ _ _ _ _ _ _ _ h (by omega) (by omega)).mono ?_; rintro e w1 ⟨x, rfl, x0, x1, hC, hO⟩; clear h))
  · go_wp2_with (go_at_call 36; refine (below_any _ _ _ _ _ _ _ _ hC (by omega) (by omega)).mono ?_; rintro e w2 ⟨y, rfl, y0, y1, hC2, hO2⟩)
    go_ret
    exact ⟨_, rfl, by omega, by omega, hC2, only_trans hO hO2⟩
  · go_ret
    exact ⟨_, rfl, by omega, by omega, hC, hO⟩
  · go_wp2_with (go_at_call 36; refine (below_any _ _ _ _ _ _ _ _ hC (by omega) (by omega)).mono ?_; rintro e w2 ⟨y, rfl, y0, y1, hC2, hO2⟩)
    go_ret
    exact ⟨_, rfl, by omega, by omega, hC2, only_trans hO hO2⟩


theorem set4 {w : World} {g : Nat} {v0 v1 v2 v3 v4 u : Value} {t : TypeId} (h : w.heap[g]? = some (.cells #[v0, v1, v2, v3, v4] t (0, 0))) : (w.setCell ⟨g, 4, none⟩ u).heap[g]? = some (.cells #[v0, v1, v2, v3, u] t (0, 0)) := by simpa using three_set (o := 4) h u
theorem set3 {w : World} {g : Nat} {v0 v1 v2 v3 v4 u : Value} {t : TypeId} (h : w.heap[g]? = some (.cells #[v0, v1, v2, v3, v4] t (0, 0))) : (w.setCell ⟨g, 3, none⟩ u).heap[g]? = some (.cells #[v0, v1, v2, u, v4] t (0, 0)) := by simpa using three_set (o := 3) h u
theorem set2 {w : World} {g : Nat} {v0 v1 v2 v3 v4 u : Value} {t : TypeId} (h : w.heap[g]? = some (.cells #[v0, v1, v2, v3, v4] t (0, 0))) : (w.setCell ⟨g, 2, none⟩ u).heap[g]? = some (.cells #[v0, v1, u, v3, v4] t (0, 0)) := by simpa using three_set (o := 2) h u
theorem set1 {w : World} {g : Nat} {v0 v1 v2 v3 v4 u : Value} {t : TypeId} (h : w.heap[g]? = some (.cells #[v0, v1, v2, v3, v4] t (0, 0))) : (w.setCell ⟨g, 1, none⟩ u).heap[g]? = some (.cells #[v0, u, v2, v3, v4] t (0, 0)) := by simpa using three_set (o := 1) h u
theorem set0 {w : World} {g : Nat} {v0 v1 v2 v3 v4 u : Value} {t : TypeId} (h : w.heap[g]? = some (.cells #[v0, v1, v2, v3, v4] t (0, 0))) : (w.setCell ⟨g, 0, none⟩ u).heap[g]? = some (.cells #[u, v1, v2, v3, v4] t (0, 0)) := by simpa using three_set (o := 0) h u
theorem far {w : World} {g : Nat} {ad : Addr} {u : Value} (hne : ¬ ad.block = g) : (w.setCell ad u).heap[g]? = w.heap[g]? := Below.heap_setCell w ad u g (fun e => hne e.symm)
theorem wset {w : World} {a : Option Addr} {g : Nat} {l : List Int} {ad : Addr} {u : Value} (h : Wt w a g l) (hne : l.length = 0 ∨ ¬ ad.block = g) : Wt (w.setCell ad u) a g l := by
  rcases hne with h0 | h0
  · exact ⟨h.head, fun i hi => by omega, fun i hi => by omega, h.size, h.byt⟩
  · exact Tg.wt_set h h0
theorem wt_eq {w : World} {g g' : Nat} {l : List Int} (e : g = g') (h : Wt w (some ⟨g, 0, none⟩) g l) : Wt w (some ⟨g', 0, none⟩) g' l := by subst e; exact h
theorem size_set (w : World) (ad : Addr) (u : Value) : (w.setCell ad u).heap.size = w.heap.size := by simp

theorem two_at {w : World} {g : Nat} {x y : Int} {t : TypeId} (h : w.heap[g]? = some (.cells #[.int .i64 x, .int .i64 y] t (0, 0))) (i : Nat) (hi : i < 2) : ∃ V : Int, w.cell? ⟨g, i, none⟩ = some (.int .i64 V) ∧ (V = x ∨ V = y) := by
  match i, hi with
  | 0, _ => exact ⟨x, by simp [World.cell?, h], .inl rfl⟩
  | 1, _ => exact ⟨y, by simp [World.cell?, h], .inr rfl⟩

/-- The numbers of a drawn packet are right. -/
def Bnd (d s t : Int) : Prop := (0 ≤ d ∧ d ≤ 281474976710655) ∧ (0 ≤ s ∧ s ≤ 281474976710655) ∧ -1 ≤ t ∧ t ≤ 4094
/-- What a draw of a packet leaves. -/
def Drawn (w : World) (g : Nat) (a : Option Addr) (b off cap : Nat) (l : List Int) (e : Ending) (w' : World) : Prop :=
  ∃ (d s t y : Int) (gb cap' : Nat) (q : List Int), e = .returned (.agg #[.int .i64 d, .int .i64 s, .int .i64 t, .int .i64 y, .slice (some ⟨gb, 0, none⟩) q.length cap']) ∧ Bnd d s t ∧ Wt w' (some ⟨gb, 0, none⟩) gb q ∧ w.heap.size ≤ gb ∧ Cur w' g a b off cap l ∧ Only g w w'

set_option maxHeartbeats 4000000 in
theorem packet_any (g : Nat) (a : Option Addr) (b off cap : Nat) (l : List Int) (w : World) (h : Cur w g a b off cap l) :
    Calls Try.prog 38 #[.pointer (some ⟨g, 0, none⟩)] w (Drawn w g a b off cap l) := by
  have hgl := cur_lt h
  have hbl : l.length = 0 ∨ b < w.heap.size := rd_lt h.rd
  have hC := cur_alloc h (.cells #[.int .i64 0, .int .i64 0, .int .i64 0, .int .i64 0, .slice none 0 0] 28)
  have hO := only_alloc (Only.refl g w) (.cells #[.int .i64 0, .int .i64 0, .int .i64 0, .int .i64 0, .slice none 0 0] 28)
  have kr : (w.alloc (.cells #[.int .i64 0, .int .i64 0, .int .i64 0, .int .i64 0, .slice none 0 0] 28)).heap[w.heap.size]? = some (.cells #[.int .i64 0, .int .i64 0, .int .i64 0, .int .i64 0, .slice none 0 0] 28 (0, 0)) := at_new rfl
  have zr : w.heap.size < (w.alloc (.cells #[.int .i64 0, .int .i64 0, .int .i64 0, .int .i64 0, .slice none 0 0] 28)).heap.size := by simp
  clear h
  go_enter Try.func38, Try.ntmps38
  go_wp2_with (first | (go_at_call 77; clear tok1; refine (num6_any _ _ _ _ _ _ _ hC).mono ?_; rintro e w2 ⟨x2, rfl, x20, x21, hC2, hO2⟩; replace kr := (k_of hO2 zr (by omega)).trans kr; replace zr := Nat.lt_of_lt_of_le zr hO2.size; replace hO := only_trans hO hO2; clear hC hO2; have hC := cur_alloc hC2 (.cells #[.int .i64 x1, .int .i64 x2, .int .i64 (-1), .int .i64 2048, .slice none 0 0] 28); have kp : (w2.alloc (.cells #[.int .i64 x1, .int .i64 x2, .int .i64 (-1), .int .i64 2048, .slice none 0 0] 28)).heap[w2.heap.size]? = some (.cells #[.int .i64 x1, .int .i64 x2, .int .i64 (-1), .int .i64 2048, .slice none 0 0] 28 (0, 0)) := at_new rfl; have zp : w2.heap.size < (w2.alloc (.cells #[.int .i64 x1, .int .i64 x2, .int .i64 (-1), .int .i64 2048, .slice none 0 0] 28)).heap.size := (by simp); replace kr := (at_old (o := .cells #[.int .i64 x1, .int .i64 x2, .int .i64 (-1), .int .i64 2048, .slice none 0 0] 28) zr).trans kr; have z2 := zr; replace zr := Nat.lt_trans zr zp; replace hO := only_alloc hO (.cells #[.int .i64 x1, .int .i64 x2, .int .i64 (-1), .int .i64 2048, .slice none 0 0] 28); clear hC2; have tok2 : True := trivial) | (go_at_call 77; refine (num6_any _ _ _ _ _ _ _ hC).mono ?_; rintro e w1 ⟨x1, rfl, x10, x11, hC1, hO1⟩; replace kr := (k_of hO1 zr (by omega)).trans kr; replace zr := Nat.lt_of_lt_of_le zr hO1.size; replace hO := only_trans hO hO1; clear hC hO1; have hC := hC1; clear hC1; have tok1 : True := trivial) | (go_at_call 36; clear tok2; refine (below_any _ _ _ _ _ _ _ _ hC (by omega) (by omega)).mono ?_; rintro e w3 ⟨k, rfl, k0, k6, hC3, hO3⟩; replace kr := (k_of hO3 zr (by omega)).trans kr; replace zr := Nat.lt_of_lt_of_le zr hO3.size; replace kp := (k_of hO3 zp (by omega)).trans kp; replace zp := Nat.lt_of_lt_of_le zp hO3.size; replace hO := only_trans hO hO3; clear hC hO3; have hC := hC3; clear hC3; obtain ⟨p0, p1, p2, p3, p4⟩ := five kp; have fp := Bl.free kp))
  · go_wp2_with (go_at_call 36; refine (below_any _ _ _ _ _ _ _ _ hC (by omega) (by omega)).mono ?_; rintro e w4 ⟨x4, rfl, x40, x41, hC4, hO4⟩; clear p0 p1 p2 p3 p4 fp; replace kr := (k_of hO4 zr (by omega)).trans kr; replace zr := Nat.lt_of_lt_of_le zr hO4.size; replace kp := (k_of hO4 zp (by omega)).trans kp; replace zp := Nat.lt_of_lt_of_le zp hO4.size; replace hO := only_trans hO hO4; clear hC hO4; have hC := hC4; clear hC4; obtain ⟨p0, p1, p2, p3, p4⟩ := five kp; have fp := Bl.free kp)
    clear p0 p1 p2 p3 p4 fp
    have hO' := only_set (p := w2.heap.size) (o := 2) (u := (.int .i64 x4)) hO (by omega)
    have hC' := cur_set (p := w2.heap.size) (o := 2) (u := (.int .i64 x4)) hC (Nat.le_of_lt z2) hgl hbl
    have kp' := set2 (u := (.int .i64 x4)) kp
    have kr' := (far (ad := ⟨w2.heap.size, 2, none⟩) (u := (.int .i64 x4)) (by simp; omega)).trans kr
    have zp' : w2.heap.size < (w4.setCell ⟨w2.heap.size, 2, none⟩ (.int .i64 x4)).heap.size := by rw [size_set]; exact zp
    have zr' : w.heap.size < (w4.setCell ⟨w2.heap.size, 2, none⟩ (.int .i64 x4)).heap.size := by rw [size_set]; exact zr
    clear hO hC kp kr zp zr
    have hO := hO'; have hC := hC'; have kp := kp'; have kr := kr'; have zp := zp'; have zr := zr'
    clear hO' hC' kp' kr' zp' zr'
    go_wp2_with (go_at_call 37; refine (bytes_any _ _ _ _ _ _ 40 _ hC (by omega)).mono ?_; rintro e w5 ⟨gb, cb, q, rfl, hW, hgb, hq, hC5, hO5⟩; have hpg := Nat.lt_of_lt_of_le zp hgb; have hrg := Nat.lt_of_lt_of_le zr hgb; replace kr := (k_of hO5 zr (by omega)).trans kr; replace zr := Nat.lt_of_lt_of_le zr hO5.size; replace kp := (k_of hO5 zp (by omega)).trans kp; replace zp := Nat.lt_of_lt_of_le zp hO5.size; replace hO := only_trans hO hO5; clear hC hO5; have hC := hC5; clear hC5; obtain ⟨p0, p1, p2, p3, p4⟩ := five kp; have fp := Bl.free kp)
    clear p0 p1 p2 p3 p4 fp
    have hO' := only_set (p := w2.heap.size) (o := 4) (u := (.slice (some ⟨gb, 0, none⟩) q.length cb)) hO (by omega)
    have hC' := cur_set (p := w2.heap.size) (o := 4) (u := (.slice (some ⟨gb, 0, none⟩) q.length cb)) hC (Nat.le_of_lt z2) hgl hbl
    have kp' := set4 (u := (.slice (some ⟨gb, 0, none⟩) q.length cb)) kp
    have kr' := (far (ad := ⟨w2.heap.size, 4, none⟩) (u := (.slice (some ⟨gb, 0, none⟩) q.length cb)) (by simp; omega)).trans kr
    have zp' : w2.heap.size < (w5.setCell ⟨w2.heap.size, 4, none⟩ (.slice (some ⟨gb, 0, none⟩) q.length cb)).heap.size := by rw [size_set]; exact zp
    have zr' : w.heap.size < (w5.setCell ⟨w2.heap.size, 4, none⟩ (.slice (some ⟨gb, 0, none⟩) q.length cb)).heap.size := by rw [size_set]; exact zr
    clear hO hC kp kr zp zr
    have hO := hO'; have hC := hC'; have kp := kp'; have kr := kr'; have zp := zp'; have zr := zr'
    clear hO' hC' kp' kr' zp' zr'
    replace hW := wset (ad := ⟨w2.heap.size, 4, none⟩) (u := (.slice (some ⟨gb, 0, none⟩) q.length cb)) hW (.inr (by simp; omega))
    clear hgb
    have tokA : True := trivial
    go_wp2_with (first | (go_at_call 36; clear tokA; refine (below_any _ _ _ _ _ _ _ _ hC (by omega) (by omega)).mono ?_; rintro e w6 ⟨z, rfl, z0, z1, hC6, hO6⟩; replace hW := wt_of hO6 hW (by omega); replace kr := (k_of hO6 zr (by omega)).trans kr; replace zr := Nat.lt_of_lt_of_le zr hO6.size; replace kp := (k_of hO6 zp (by omega)).trans kp; replace zp := Nat.lt_of_lt_of_le zp hO6.size; replace hO := only_trans hO hO6; clear hC hO6; have hC := hC6; clear hC6; obtain ⟨p0, p1, p2, p3, p4⟩ := five kp; have fp := Bl.free kp; obtain ⟨r0, r1, r2, r3, r4⟩ := five kr; have fr := Bl.free kr; have tokB : True := trivial) | (go_at_call 36; clear tokB; refine (below_any _ _ _ _ _ _ _ _ hC (by omega) (by omega)).mono ?_; rintro e w7 ⟨m, rfl, m0, m1, hC7, hO7⟩; clear p0 p1 p2 p3 p4 fp r0 r1 r2 r3 r4 fr hW; replace kr := (k_of hO7 zr (by omega)).trans kr; replace zr := Nat.lt_of_lt_of_le zr hO7.size; replace kp := (k_of hO7 zp (by omega)).trans kp; replace zp := Nat.lt_of_lt_of_le zp hO7.size; replace hO := only_trans hO hO7; clear hC hO7; have hC := hC7; clear hC7; obtain ⟨M, hM⟩ : ∃ M : Nat, (1500 : Int) - m = M := ⟨(1500 - m).toNat, (by omega)⟩; have hM2 : M ≤ 1500 := (by omega); have hmk := run_make_row' (P := Try.prog) 22 5 (.int .u8 0) 1 Try.underlying22 info5 rfl .i64 .i64 M (by omega) (by omega); obtain ⟨p0, p1, p2, p3, p4⟩ := five kp; have fp := Bl.free kp; obtain ⟨r0, r1, r2, r3, r4⟩ := five kr; have fr := Bl.free kr))
    · refine bodyPost_ret (v := .agg #[.int .i64 x1, .int .i64 x2, .int .i64 x4, .int .i64 2048, (.slice (some ⟨w7.heap.size, 0, none⟩) M M)]) (by simp [results, Try.results38, go_sem, zr, r0, r1, r2, r3, r4]) rfl ⟨x1, x2, x4, 2048, w7.heap.size, M, List.replicate M 0, by rw [List.length_replicate], ⟨⟨x10, x11⟩, ⟨x20, x21⟩, by omega, by omega⟩, ?_, by omega, ?_, ?_⟩
      · exact wt_eq (by simp) (mine_wt (mine_made _ M (by omega)))
      · exact cur_alloc (cur_set (cur_set (cur_set (cur_set (cur_set (cur_set hC (Nat.le_of_lt z2) hgl hbl) (Nat.le_refl _) hgl hbl) (Nat.le_refl _) hgl hbl) (Nat.le_refl _) hgl hbl) (Nat.le_refl _) hgl hbl) (Nat.le_refl _) hgl hbl) _
      · exact only_alloc (only_set (only_set (only_set (only_set (only_set (only_set hO (Nat.le_of_lt z2)) (Nat.le_refl _)) (Nat.le_refl _)) (Nat.le_refl _)) (Nat.le_refl _)) (Nat.le_refl _)) _
    · refine bodyPost_ret (v := .agg #[.int .i64 x1, .int .i64 x2, .int .i64 x4, .int .i64 2048, (.slice (some ⟨gb, 0, none⟩) q.length cb)]) (by simp [results, Try.results38, go_sem, r0, r1, r2, r3, r4]) rfl ⟨x1, x2, x4, 2048, gb, cb, q, rfl, ⟨⟨x10, x11⟩, ⟨x20, x21⟩, by omega, by omega⟩, ?_, by omega, ?_, ?_⟩
      · exact wset (wset (wset (wset (wset (hW) (.inr (by simp; omega))) (.inr (by simp; omega))) (.inr (by simp; omega))) (.inr (by simp; omega))) (.inr (by simp; omega))
      · exact cur_set (cur_set (cur_set (cur_set (cur_set (hC) (Nat.le_refl _) hgl hbl) (Nat.le_refl _) hgl hbl) (Nat.le_refl _) hgl hbl) (Nat.le_refl _) hgl hbl) (Nat.le_refl _) hgl hbl
      · exact only_set (only_set (only_set (only_set (only_set (hO) (Nat.le_refl _)) (Nat.le_refl _)) (Nat.le_refl _)) (Nat.le_refl _)) (Nat.le_refl _)
  · go_wp2_with (go_at_call 36; refine (below_any _ _ _ _ _ _ _ _ hC (by omega) (by omega)).mono ?_; rintro e w4 ⟨x4, rfl, x40, x41, hC4, hO4⟩; clear p0 p1 p2 p3 p4 fp; replace kr := (k_of hO4 zr (by omega)).trans kr; replace zr := Nat.lt_of_lt_of_le zr hO4.size; replace kp := (k_of hO4 zp (by omega)).trans kp; replace zp := Nat.lt_of_lt_of_le zp hO4.size; replace hO := only_trans hO hO4; clear hC hO4; have hC := hC4; clear hC4; obtain ⟨p0, p1, p2, p3, p4⟩ := five kp; have fp := Bl.free kp)
    clear p0 p1 p2 p3 p4 fp
    have hO' := only_set (p := w2.heap.size) (o := 3) (u := (.int .i64 (1536 + x4))) hO (by omega)
    have hC' := cur_set (p := w2.heap.size) (o := 3) (u := (.int .i64 (1536 + x4))) hC (Nat.le_of_lt z2) hgl hbl
    have kp' := set3 (u := (.int .i64 (1536 + x4))) kp
    have kr' := (far (ad := ⟨w2.heap.size, 3, none⟩) (u := (.int .i64 (1536 + x4))) (by simp; omega)).trans kr
    have zp' : w2.heap.size < (w4.setCell ⟨w2.heap.size, 3, none⟩ (.int .i64 (1536 + x4))).heap.size := by rw [size_set]; exact zp
    have zr' : w.heap.size < (w4.setCell ⟨w2.heap.size, 3, none⟩ (.int .i64 (1536 + x4))).heap.size := by rw [size_set]; exact zr
    clear hO hC kp kr zp zr
    have hO := hO'; have hC := hC'; have kp := kp'; have kr := kr'; have zp := zp'; have zr := zr'
    clear hO' hC' kp' kr' zp' zr'
    go_wp2_with (go_at_call 37; refine (bytes_any _ _ _ _ _ _ 40 _ hC (by omega)).mono ?_; rintro e w5 ⟨gb, cb, q, rfl, hW, hgb, hq, hC5, hO5⟩; have hpg := Nat.lt_of_lt_of_le zp hgb; have hrg := Nat.lt_of_lt_of_le zr hgb; replace kr := (k_of hO5 zr (by omega)).trans kr; replace zr := Nat.lt_of_lt_of_le zr hO5.size; replace kp := (k_of hO5 zp (by omega)).trans kp; replace zp := Nat.lt_of_lt_of_le zp hO5.size; replace hO := only_trans hO hO5; clear hC hO5; have hC := hC5; clear hC5; obtain ⟨p0, p1, p2, p3, p4⟩ := five kp; have fp := Bl.free kp)
    clear p0 p1 p2 p3 p4 fp
    have hO' := only_set (p := w2.heap.size) (o := 4) (u := (.slice (some ⟨gb, 0, none⟩) q.length cb)) hO (by omega)
    have hC' := cur_set (p := w2.heap.size) (o := 4) (u := (.slice (some ⟨gb, 0, none⟩) q.length cb)) hC (Nat.le_of_lt z2) hgl hbl
    have kp' := set4 (u := (.slice (some ⟨gb, 0, none⟩) q.length cb)) kp
    have kr' := (far (ad := ⟨w2.heap.size, 4, none⟩) (u := (.slice (some ⟨gb, 0, none⟩) q.length cb)) (by simp; omega)).trans kr
    have zp' : w2.heap.size < (w5.setCell ⟨w2.heap.size, 4, none⟩ (.slice (some ⟨gb, 0, none⟩) q.length cb)).heap.size := by rw [size_set]; exact zp
    have zr' : w.heap.size < (w5.setCell ⟨w2.heap.size, 4, none⟩ (.slice (some ⟨gb, 0, none⟩) q.length cb)).heap.size := by rw [size_set]; exact zr
    clear hO hC kp kr zp zr
    have hO := hO'; have hC := hC'; have kp := kp'; have kr := kr'; have zp := zp'; have zr := zr'
    clear hO' hC' kp' kr' zp' zr'
    replace hW := wset (ad := ⟨w2.heap.size, 4, none⟩) (u := (.slice (some ⟨gb, 0, none⟩) q.length cb)) hW (.inr (by simp; omega))
    clear hgb
    have tokA : True := trivial
    go_wp2_with (first | (go_at_call 36; clear tokA; refine (below_any _ _ _ _ _ _ _ _ hC (by omega) (by omega)).mono ?_; rintro e w6 ⟨z, rfl, z0, z1, hC6, hO6⟩; replace hW := wt_of hO6 hW (by omega); replace kr := (k_of hO6 zr (by omega)).trans kr; replace zr := Nat.lt_of_lt_of_le zr hO6.size; replace kp := (k_of hO6 zp (by omega)).trans kp; replace zp := Nat.lt_of_lt_of_le zp hO6.size; replace hO := only_trans hO hO6; clear hC hO6; have hC := hC6; clear hC6; obtain ⟨p0, p1, p2, p3, p4⟩ := five kp; have fp := Bl.free kp; obtain ⟨r0, r1, r2, r3, r4⟩ := five kr; have fr := Bl.free kr; have tokB : True := trivial) | (go_at_call 36; clear tokB; refine (below_any _ _ _ _ _ _ _ _ hC (by omega) (by omega)).mono ?_; rintro e w7 ⟨m, rfl, m0, m1, hC7, hO7⟩; clear p0 p1 p2 p3 p4 fp r0 r1 r2 r3 r4 fr hW; replace kr := (k_of hO7 zr (by omega)).trans kr; replace zr := Nat.lt_of_lt_of_le zr hO7.size; replace kp := (k_of hO7 zp (by omega)).trans kp; replace zp := Nat.lt_of_lt_of_le zp hO7.size; replace hO := only_trans hO hO7; clear hC hO7; have hC := hC7; clear hC7; obtain ⟨M, hM⟩ : ∃ M : Nat, (1500 : Int) - m = M := ⟨(1500 - m).toNat, (by omega)⟩; have hM2 : M ≤ 1500 := (by omega); have hmk := run_make_row' (P := Try.prog) 22 5 (.int .u8 0) 1 Try.underlying22 info5 rfl .i64 .i64 M (by omega) (by omega); obtain ⟨p0, p1, p2, p3, p4⟩ := five kp; have fp := Bl.free kp; obtain ⟨r0, r1, r2, r3, r4⟩ := five kr; have fr := Bl.free kr))
    · refine bodyPost_ret (v := .agg #[.int .i64 x1, .int .i64 x2, .int .i64 (-1), .int .i64 (1536 + x4), (.slice (some ⟨w7.heap.size, 0, none⟩) M M)]) (by simp [results, Try.results38, go_sem, zr, r0, r1, r2, r3, r4]) rfl ⟨x1, x2, (-1), (1536 + x4), w7.heap.size, M, List.replicate M 0, by rw [List.length_replicate], ⟨⟨x10, x11⟩, ⟨x20, x21⟩, by omega, by omega⟩, ?_, by omega, ?_, ?_⟩
      · exact wt_eq (by simp) (mine_wt (mine_made _ M (by omega)))
      · exact cur_alloc (cur_set (cur_set (cur_set (cur_set (cur_set (cur_set hC (Nat.le_of_lt z2) hgl hbl) (Nat.le_refl _) hgl hbl) (Nat.le_refl _) hgl hbl) (Nat.le_refl _) hgl hbl) (Nat.le_refl _) hgl hbl) (Nat.le_refl _) hgl hbl) _
      · exact only_alloc (only_set (only_set (only_set (only_set (only_set (only_set hO (Nat.le_of_lt z2)) (Nat.le_refl _)) (Nat.le_refl _)) (Nat.le_refl _)) (Nat.le_refl _)) (Nat.le_refl _)) _
    · refine bodyPost_ret (v := .agg #[.int .i64 x1, .int .i64 x2, .int .i64 (-1), .int .i64 (1536 + x4), (.slice (some ⟨gb, 0, none⟩) q.length cb)]) (by simp [results, Try.results38, go_sem, r0, r1, r2, r3, r4]) rfl ⟨x1, x2, (-1), (1536 + x4), gb, cb, q, rfl, ⟨⟨x10, x11⟩, ⟨x20, x21⟩, by omega, by omega⟩, ?_, by omega, ?_, ?_⟩
      · exact wset (wset (wset (wset (wset (hW) (.inr (by simp; omega))) (.inr (by simp; omega))) (.inr (by simp; omega))) (.inr (by simp; omega))) (.inr (by simp; omega))
      · exact cur_set (cur_set (cur_set (cur_set (cur_set (hC) (Nat.le_refl _) hgl hbl) (Nat.le_refl _) hgl hbl) (Nat.le_refl _) hgl hbl) (Nat.le_refl _) hgl hbl) (Nat.le_refl _) hgl hbl
      · exact only_set (only_set (only_set (only_set (only_set (hO) (Nat.le_refl _)) (Nat.le_refl _)) (Nat.le_refl _)) (Nat.le_refl _)) (Nat.le_refl _)
  · clear p0 p1 p2 p3 p4 fp
    have hO' := only_set (p := w2.heap.size) (o := 3) (u := (.int .i64 65535)) hO (by omega)
    have hC' := cur_set (p := w2.heap.size) (o := 3) (u := (.int .i64 65535)) hC (Nat.le_of_lt z2) hgl hbl
    have kp' := set3 (u := (.int .i64 65535)) kp
    have kr' := (far (ad := ⟨w2.heap.size, 3, none⟩) (u := (.int .i64 65535)) (by simp; omega)).trans kr
    have zp' : w2.heap.size < (w3.setCell ⟨w2.heap.size, 3, none⟩ (.int .i64 65535)).heap.size := by rw [size_set]; exact zp
    have zr' : w.heap.size < (w3.setCell ⟨w2.heap.size, 3, none⟩ (.int .i64 65535)).heap.size := by rw [size_set]; exact zr
    clear hO hC kp kr zp zr
    have hO := hO'; have hC := hC'; have kp := kp'; have kr := kr'; have zp := zp'; have zr := zr'
    clear hO' hC' kp' kr' zp' zr'
    have eS : (w3.setCell ⟨w2.heap.size, 3, none⟩ (.int .i64 65535)).heap.size = w3.heap.size := size_set _ _ _
    have kS : ((w3.setCell ⟨w2.heap.size, 3, none⟩ (.int .i64 65535)).alloc (.cells #[.int .i64 0, .int .i64 4094] 3)).heap[w3.heap.size]? = some (.cells #[.int .i64 0, .int .i64 4094] 3 (0, 0)) := at_new eS.symm
    have zS : w3.heap.size < ((w3.setCell ⟨w2.heap.size, 3, none⟩ (.int .i64 65535)).alloc (.cells #[.int .i64 0, .int .i64 4094] 3)).heap.size := by simp
    replace kp := (at_old (o := .cells #[.int .i64 0, .int .i64 4094] 3) zp).trans kp
    replace kr := (at_old (o := .cells #[.int .i64 0, .int .i64 4094] 3) zr).trans kr
    replace hO := only_alloc hO (.cells #[.int .i64 0, .int .i64 4094] 3)
    replace hC := cur_alloc hC (.cells #[.int .i64 0, .int .i64 4094] 3)
    rw [eS] at zp zr
    have zp3 := zp
    replace zp := Nat.lt_trans zp zS
    replace zr := Nat.lt_trans zr zS
    have ltS := cur_lt hC
    go_wp2_with (go_at_call 36; refine (below_any _ _ _ _ _ _ _ _ hC (by omega) (by omega)).mono ?_; rintro e w4 ⟨x4, rfl, x40, x41, hC4, hO4⟩; replace kS := (k_of hO4 zS (by omega)).trans kS; replace kr := (k_of hO4 zr (by omega)).trans kr; replace zr := Nat.lt_of_lt_of_le zr hO4.size; replace kp := (k_of hO4 zp (by omega)).trans kp; replace zp := Nat.lt_of_lt_of_le zp hO4.size; replace hO := only_trans hO hO4; clear hC hO4; have hC := hC4; clear hC4; obtain ⟨p0, p1, p2, p3, p4⟩ := five kp; have fp := Bl.free kp; obtain ⟨n4, hn4⟩ : ∃ n : Nat, x4 = n := ⟨x4.toNat, (by omega)⟩; subst hn4; obtain ⟨V, hV, hVb⟩ := two_at kS n4 (by omega); have hn2 : (n4 : Int) < 2 := x41)
    clear p0 p1 p2 p3 p4 fp
    have hO' := only_set (p := w2.heap.size) (o := 2) (u := (.int .i64 V)) hO (by omega)
    have hC' := cur_set (p := w2.heap.size) (o := 2) (u := (.int .i64 V)) hC (Nat.le_of_lt z2) hgl hbl
    have kp' := set2 (u := (.int .i64 V)) kp
    have kr' := (far (ad := ⟨w2.heap.size, 2, none⟩) (u := (.int .i64 V)) (by simp; omega)).trans kr
    have zp' : w2.heap.size < (w4.setCell ⟨w2.heap.size, 2, none⟩ (.int .i64 V)).heap.size := by rw [size_set]; exact zp
    have zr' : w.heap.size < (w4.setCell ⟨w2.heap.size, 2, none⟩ (.int .i64 V)).heap.size := by rw [size_set]; exact zr
    clear hO hC kp kr zp zr
    have hO := hO'; have hC := hC'; have kp := kp'; have kr := kr'; have zp := zp'; have zr := zr'
    clear hO' hC' kp' kr' zp' zr'
    go_wp2_with (go_at_call 37; refine (bytes_any _ _ _ _ _ _ 40 _ hC (by omega)).mono ?_; rintro e w5 ⟨gb, cb, q, rfl, hW, hgb, hq, hC5, hO5⟩; have hpg := Nat.lt_of_lt_of_le zp hgb; have hrg := Nat.lt_of_lt_of_le zr hgb; replace kr := (k_of hO5 zr (by omega)).trans kr; replace zr := Nat.lt_of_lt_of_le zr hO5.size; replace kp := (k_of hO5 zp (by omega)).trans kp; replace zp := Nat.lt_of_lt_of_le zp hO5.size; replace hO := only_trans hO hO5; clear hC hO5; have hC := hC5; clear hC5; obtain ⟨p0, p1, p2, p3, p4⟩ := five kp; have fp := Bl.free kp)
    clear p0 p1 p2 p3 p4 fp
    have hO' := only_set (p := w2.heap.size) (o := 4) (u := (.slice (some ⟨gb, 0, none⟩) q.length cb)) hO (by omega)
    have hC' := cur_set (p := w2.heap.size) (o := 4) (u := (.slice (some ⟨gb, 0, none⟩) q.length cb)) hC (Nat.le_of_lt z2) hgl hbl
    have kp' := set4 (u := (.slice (some ⟨gb, 0, none⟩) q.length cb)) kp
    have kr' := (far (ad := ⟨w2.heap.size, 4, none⟩) (u := (.slice (some ⟨gb, 0, none⟩) q.length cb)) (by simp; omega)).trans kr
    have zp' : w2.heap.size < (w5.setCell ⟨w2.heap.size, 4, none⟩ (.slice (some ⟨gb, 0, none⟩) q.length cb)).heap.size := by rw [size_set]; exact zp
    have zr' : w.heap.size < (w5.setCell ⟨w2.heap.size, 4, none⟩ (.slice (some ⟨gb, 0, none⟩) q.length cb)).heap.size := by rw [size_set]; exact zr
    clear hO hC kp kr zp zr
    have hO := hO'; have hC := hC'; have kp := kp'; have kr := kr'; have zp := zp'; have zr := zr'
    clear hO' hC' kp' kr' zp' zr'
    replace hW := wset (ad := ⟨w2.heap.size, 4, none⟩) (u := (.slice (some ⟨gb, 0, none⟩) q.length cb)) hW (.inr (by simp; omega))
    clear hgb
    have tokA : True := trivial
    go_wp2_with (first | (go_at_call 36; clear tokA; refine (below_any _ _ _ _ _ _ _ _ hC (by omega) (by omega)).mono ?_; rintro e w6 ⟨z, rfl, z0, z1, hC6, hO6⟩; replace hW := wt_of hO6 hW (by omega); replace kr := (k_of hO6 zr (by omega)).trans kr; replace zr := Nat.lt_of_lt_of_le zr hO6.size; replace kp := (k_of hO6 zp (by omega)).trans kp; replace zp := Nat.lt_of_lt_of_le zp hO6.size; replace hO := only_trans hO hO6; clear hC hO6; have hC := hC6; clear hC6; obtain ⟨p0, p1, p2, p3, p4⟩ := five kp; have fp := Bl.free kp; obtain ⟨r0, r1, r2, r3, r4⟩ := five kr; have fr := Bl.free kr; have tokB : True := trivial) | (go_at_call 36; clear tokB; refine (below_any _ _ _ _ _ _ _ _ hC (by omega) (by omega)).mono ?_; rintro e w7 ⟨m, rfl, m0, m1, hC7, hO7⟩; clear p0 p1 p2 p3 p4 fp r0 r1 r2 r3 r4 fr hW; replace kr := (k_of hO7 zr (by omega)).trans kr; replace zr := Nat.lt_of_lt_of_le zr hO7.size; replace kp := (k_of hO7 zp (by omega)).trans kp; replace zp := Nat.lt_of_lt_of_le zp hO7.size; replace hO := only_trans hO hO7; clear hC hO7; have hC := hC7; clear hC7; obtain ⟨M, hM⟩ : ∃ M : Nat, (1500 : Int) - m = M := ⟨(1500 - m).toNat, (by omega)⟩; have hM2 : M ≤ 1500 := (by omega); have hmk := run_make_row' (P := Try.prog) 22 5 (.int .u8 0) 1 Try.underlying22 info5 rfl .i64 .i64 M (by omega) (by omega); obtain ⟨p0, p1, p2, p3, p4⟩ := five kp; have fp := Bl.free kp; obtain ⟨r0, r1, r2, r3, r4⟩ := five kr; have fr := Bl.free kr))
    · refine bodyPost_ret (v := .agg #[.int .i64 x1, .int .i64 x2, .int .i64 V, .int .i64 65535, (.slice (some ⟨w7.heap.size, 0, none⟩) M M)]) (by simp [results, Try.results38, go_sem, zr, r0, r1, r2, r3, r4]) rfl ⟨x1, x2, V, 65535, w7.heap.size, M, List.replicate M 0, by rw [List.length_replicate], ⟨⟨x10, x11⟩, ⟨x20, x21⟩, by omega, by omega⟩, ?_, by omega, ?_, ?_⟩
      · exact wt_eq (by simp) (mine_wt (mine_made _ M (by omega)))
      · exact cur_alloc (cur_set (cur_set (cur_set (cur_set (cur_set (cur_set hC (Nat.le_of_lt z2) hgl hbl) (Nat.le_refl _) hgl hbl) (Nat.le_refl _) hgl hbl) (Nat.le_refl _) hgl hbl) (Nat.le_refl _) hgl hbl) (Nat.le_refl _) hgl hbl) _
      · exact only_alloc (only_set (only_set (only_set (only_set (only_set (only_set hO (Nat.le_of_lt z2)) (Nat.le_refl _)) (Nat.le_refl _)) (Nat.le_refl _)) (Nat.le_refl _)) (Nat.le_refl _)) _
    · refine bodyPost_ret (v := .agg #[.int .i64 x1, .int .i64 x2, .int .i64 V, .int .i64 65535, (.slice (some ⟨gb, 0, none⟩) q.length cb)]) (by simp [results, Try.results38, go_sem, r0, r1, r2, r3, r4]) rfl ⟨x1, x2, V, 65535, gb, cb, q, rfl, ⟨⟨x10, x11⟩, ⟨x20, x21⟩, by omega, by omega⟩, ?_, by omega, ?_, ?_⟩
      · exact wset (wset (wset (wset (wset (hW) (.inr (by simp; omega))) (.inr (by simp; omega))) (.inr (by simp; omega))) (.inr (by simp; omega))) (.inr (by simp; omega))
      · exact cur_set (cur_set (cur_set (cur_set (cur_set (hC) (Nat.le_refl _) hgl hbl) (Nat.le_refl _) hgl hbl) (Nat.le_refl _) hgl hbl) (Nat.le_refl _) hgl hbl) (Nat.le_refl _) hgl hbl
      · exact only_set (only_set (only_set (only_set (only_set (hO) (Nat.le_refl _)) (Nat.le_refl _)) (Nat.le_refl _)) (Nat.le_refl _)) (Nat.le_refl _)
  · clear p0 p1 p2 p3 p4 fp
    go_wp2_with (go_at_call 37; refine (bytes_any _ _ _ _ _ _ 40 _ hC (by omega)).mono ?_; rintro e w5 ⟨gb, cb, q, rfl, hW, hgb, hq, hC5, hO5⟩; have hpg := Nat.lt_of_lt_of_le zp hgb; have hrg := Nat.lt_of_lt_of_le zr hgb; replace kr := (k_of hO5 zr (by omega)).trans kr; replace zr := Nat.lt_of_lt_of_le zr hO5.size; replace kp := (k_of hO5 zp (by omega)).trans kp; replace zp := Nat.lt_of_lt_of_le zp hO5.size; replace hO := only_trans hO hO5; clear hC hO5; have hC := hC5; clear hC5; obtain ⟨p0, p1, p2, p3, p4⟩ := five kp; have fp := Bl.free kp)
    clear p0 p1 p2 p3 p4 fp
    have hO' := only_set (p := w2.heap.size) (o := 4) (u := (.slice (some ⟨gb, 0, none⟩) q.length cb)) hO (by omega)
    have hC' := cur_set (p := w2.heap.size) (o := 4) (u := (.slice (some ⟨gb, 0, none⟩) q.length cb)) hC (Nat.le_of_lt z2) hgl hbl
    have kp' := set4 (u := (.slice (some ⟨gb, 0, none⟩) q.length cb)) kp
    have kr' := (far (ad := ⟨w2.heap.size, 4, none⟩) (u := (.slice (some ⟨gb, 0, none⟩) q.length cb)) (by simp; omega)).trans kr
    have zp' : w2.heap.size < (w5.setCell ⟨w2.heap.size, 4, none⟩ (.slice (some ⟨gb, 0, none⟩) q.length cb)).heap.size := by rw [size_set]; exact zp
    have zr' : w.heap.size < (w5.setCell ⟨w2.heap.size, 4, none⟩ (.slice (some ⟨gb, 0, none⟩) q.length cb)).heap.size := by rw [size_set]; exact zr
    clear hO hC kp kr zp zr
    have hO := hO'; have hC := hC'; have kp := kp'; have kr := kr'; have zp := zp'; have zr := zr'
    clear hO' hC' kp' kr' zp' zr'
    replace hW := wset (ad := ⟨w2.heap.size, 4, none⟩) (u := (.slice (some ⟨gb, 0, none⟩) q.length cb)) hW (.inr (by simp; omega))
    clear hgb
    have tokA : True := trivial
    go_wp2_with (first | (go_at_call 36; clear tokA; refine (below_any _ _ _ _ _ _ _ _ hC (by omega) (by omega)).mono ?_; rintro e w6 ⟨z, rfl, z0, z1, hC6, hO6⟩; replace hW := wt_of hO6 hW (by omega); replace kr := (k_of hO6 zr (by omega)).trans kr; replace zr := Nat.lt_of_lt_of_le zr hO6.size; replace kp := (k_of hO6 zp (by omega)).trans kp; replace zp := Nat.lt_of_lt_of_le zp hO6.size; replace hO := only_trans hO hO6; clear hC hO6; have hC := hC6; clear hC6; obtain ⟨p0, p1, p2, p3, p4⟩ := five kp; have fp := Bl.free kp; obtain ⟨r0, r1, r2, r3, r4⟩ := five kr; have fr := Bl.free kr; have tokB : True := trivial) | (go_at_call 36; clear tokB; refine (below_any _ _ _ _ _ _ _ _ hC (by omega) (by omega)).mono ?_; rintro e w7 ⟨m, rfl, m0, m1, hC7, hO7⟩; clear p0 p1 p2 p3 p4 fp r0 r1 r2 r3 r4 fr hW; replace kr := (k_of hO7 zr (by omega)).trans kr; replace zr := Nat.lt_of_lt_of_le zr hO7.size; replace kp := (k_of hO7 zp (by omega)).trans kp; replace zp := Nat.lt_of_lt_of_le zp hO7.size; replace hO := only_trans hO hO7; clear hC hO7; have hC := hC7; clear hC7; obtain ⟨M, hM⟩ : ∃ M : Nat, (1500 : Int) - m = M := ⟨(1500 - m).toNat, (by omega)⟩; have hM2 : M ≤ 1500 := (by omega); have hmk := run_make_row' (P := Try.prog) 22 5 (.int .u8 0) 1 Try.underlying22 info5 rfl .i64 .i64 M (by omega) (by omega); obtain ⟨p0, p1, p2, p3, p4⟩ := five kp; have fp := Bl.free kp; obtain ⟨r0, r1, r2, r3, r4⟩ := five kr; have fr := Bl.free kr))
    · refine bodyPost_ret (v := .agg #[.int .i64 x1, .int .i64 x2, .int .i64 (-1), .int .i64 2048, (.slice (some ⟨w7.heap.size, 0, none⟩) M M)]) (by simp [results, Try.results38, go_sem, zr, r0, r1, r2, r3, r4]) rfl ⟨x1, x2, (-1), 2048, w7.heap.size, M, List.replicate M 0, by rw [List.length_replicate], ⟨⟨x10, x11⟩, ⟨x20, x21⟩, by omega, by omega⟩, ?_, by omega, ?_, ?_⟩
      · exact wt_eq (by simp) (mine_wt (mine_made _ M (by omega)))
      · exact cur_alloc (cur_set (cur_set (cur_set (cur_set (cur_set (cur_set hC (Nat.le_of_lt z2) hgl hbl) (Nat.le_refl _) hgl hbl) (Nat.le_refl _) hgl hbl) (Nat.le_refl _) hgl hbl) (Nat.le_refl _) hgl hbl) (Nat.le_refl _) hgl hbl) _
      · exact only_alloc (only_set (only_set (only_set (only_set (only_set (only_set hO (Nat.le_of_lt z2)) (Nat.le_refl _)) (Nat.le_refl _)) (Nat.le_refl _)) (Nat.le_refl _)) (Nat.le_refl _)) _
    · refine bodyPost_ret (v := .agg #[.int .i64 x1, .int .i64 x2, .int .i64 (-1), .int .i64 2048, (.slice (some ⟨gb, 0, none⟩) q.length cb)]) (by simp [results, Try.results38, go_sem, r0, r1, r2, r3, r4]) rfl ⟨x1, x2, (-1), 2048, gb, cb, q, rfl, ⟨⟨x10, x11⟩, ⟨x20, x21⟩, by omega, by omega⟩, ?_, by omega, ?_, ?_⟩
      · exact wset (wset (wset (wset (wset (hW) (.inr (by simp; omega))) (.inr (by simp; omega))) (.inr (by simp; omega))) (.inr (by simp; omega))) (.inr (by simp; omega))
      · exact cur_set (cur_set (cur_set (cur_set (cur_set (hC) (Nat.le_refl _) hgl hbl) (Nat.le_refl _) hgl hbl) (Nat.le_refl _) hgl hbl) (Nat.le_refl _) hgl hbl) (Nat.le_refl _) hgl hbl
      · exact only_set (only_set (only_set (only_set (only_set (hO) (Nat.le_refl _)) (Nat.le_refl _)) (Nat.le_refl _)) (Nat.le_refl _)) (Nat.le_refl _)

end Go.Proofs.Ythgbjbebjjeddaa.Dr
