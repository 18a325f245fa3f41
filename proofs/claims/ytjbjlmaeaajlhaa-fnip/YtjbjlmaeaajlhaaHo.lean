/-
  Both Hop: what they answer, on every datagram.
-/
import Derived.Test.YtjbjlmaeaajlhaaSu
import Derived.Test.YtjbjlmaeaajlhaaDrawb
namespace Go.Proofs.Ytjbjlmaeaajlhaa.Ho
open Go Go.RowKit
open Num Rw Mk Un Put Pl App Pf Pb Ipl Hp Hd

theorem rd_set {w : World} {a : Option Addr} {b off : Nat} {l : List Int} {ad : Addr} {u : Value} (h : Rd w a b off l) (hne : l.length = 0 ∨ ¬ ad.block = b) : Rd (w.setCell ad u) a b off l :=
  ⟨h.head, fun i hi => (World.cell?_setCell_other _ _ _ _ (by intro q; rcases hne with h0 | h0; omega; apply h0; rw [q])).trans (h.cell i hi), h.size, h.byt⟩
theorem set0 {w : World} {g : Nat} {v0 v1 v2 v3 v4 u : Value} {t : TypeId} (h : w.heap[g]? = some (.cells #[v0, v1, v2, v3, v4] t (0, 0))) : (w.setCell ⟨g, 0, none⟩ u).heap[g]? = some (.cells #[u, v1, v2, v3, v4] t (0, 0)) := by simpa using Dr.three_set (o := 0) h u
theorem far {w : World} {g : Nat} {ad : Addr} {u : Value} (hne : ¬ ad.block = g) : (w.setCell ad u).heap[g]? = w.heap[g]? := Below.heap_setCell w ad u g (fun e => hne e.symm)

def No (w : World) (e : Ending) (w' : World) : Prop :=
  e = .returned (.tuple #[.agg #[.int .i64 0, .int .i64 0, .int .i64 0, .int .i64 0, .slice none 0 0], .bool false]) ∧ Below w.heap.size w w'
theorem res_no {w w' : World} {e : Ending} (h : No w e w') : Lw.ResB w 0 0 0 0 false [] e w' :=
  ⟨none, w.heap.size, 0, h.1, Wt.nil _ _ _, Nat.le_refl _, fun _ => rfl, h.2⟩

set_option maxHeartbeats 1000000 in
theorem implNo (t p s d : Int) (a : Option Addr) (n c : Nat) (w : World) (hok : Ik.okI t p s d n = false) :
    Calls Try.prog 28 #[.agg #[.int .i64 t, .int .i64 p, .int .i64 s, .int .i64 d, .slice a n c]] w (No w) := by
  obtain ⟨W0, hW0⟩ : ∃ W0, W0 = (w.alloc (.cells #[.int .i64 t, .int .i64 p, .int .i64 s, .int .i64 d, .slice a n c] 27)).alloc (.cells #[.int .i64 0, .int .i64 0, .int .i64 0, .int .i64 0, .slice none 0 0] 27) := ⟨_, rfl⟩
  have B0 : Below w.heap.size w W0 := by subst hW0; exact next (below_alloc1 _ _) (below_alloc1 _ _)
  have z0 : W0.heap.size = w.heap.size + 2 := by subst hW0; simp
  have k0 : W0.heap[w.heap.size]? = some (.cells #[.int .i64 t, .int .i64 p, .int .i64 s, .int .i64 d, .slice a n c] 27 (0, 0)) := by subst hW0; rw [at_old (by simp), at_new (by simp)]
  have k1 : W0.heap[w.heap.size + 1]? = some (.cells #[.int .i64 0, .int .i64 0, .int .i64 0, .int .i64 0, .slice none 0 0] 27 (0, 0)) := by subst hW0; rw [at_new (by simp)]
  go_enter Try.func28, Try.ntmps28
  go_wp2_with (go_at_call 15; rw [← hW0]; refine (Ik.implIp_any _ _ _ _ _ _ _ _).mono ?_; rw [hok]; rintro e wa ⟨rfl, hba⟩; replace k1 := (hba.block _ (by omega)).trans k1; replace k0 := (hba.block _ (by omega)).trans k0; obtain ⟨x0, x1, x2, x3, x4⟩ := five k0; obtain ⟨c0, c1, c2, c3, c4⟩ := five k1; have f1 := Bl.free k1)
  refine bodyPost_ret (v := .tuple #[.agg #[.int .i64 0, .int .i64 0, .int .i64 0, .int .i64 0, .slice none 0 0], .bool false]) (by simp [results, Try.results28, go_sem, c0, c1, c2, c3, c4]) rfl ⟨rfl, ?_⟩
  exact ((((((next B0 hba).setCell (by simp) _).setCell (by simp) _).setCell (by simp) _).setCell (by simp) _).setCell (by simp) _)

set_option maxHeartbeats 1000000 in
theorem implLow (t p s d : Int) (a : Option Addr) (n c : Nat) (w : World) (hok : Ik.okI t p s d n = true) (ht : t < 2) :
    Calls Try.prog 28 #[.agg #[.int .i64 t, .int .i64 p, .int .i64 s, .int .i64 d, .slice a n c]] w (No w) := by
  obtain ⟨W0, hW0⟩ : ∃ W0, W0 = (w.alloc (.cells #[.int .i64 t, .int .i64 p, .int .i64 s, .int .i64 d, .slice a n c] 27)).alloc (.cells #[.int .i64 0, .int .i64 0, .int .i64 0, .int .i64 0, .slice none 0 0] 27) := ⟨_, rfl⟩
  have B0 : Below w.heap.size w W0 := by subst hW0; exact next (below_alloc1 _ _) (below_alloc1 _ _)
  have z0 : W0.heap.size = w.heap.size + 2 := by subst hW0; simp
  have k0 : W0.heap[w.heap.size]? = some (.cells #[.int .i64 t, .int .i64 p, .int .i64 s, .int .i64 d, .slice a n c] 27 (0, 0)) := by subst hW0; rw [at_old (by simp), at_new (by simp)]
  have k1 : W0.heap[w.heap.size + 1]? = some (.cells #[.int .i64 0, .int .i64 0, .int .i64 0, .int .i64 0, .slice none 0 0] 27 (0, 0)) := by subst hW0; rw [at_new (by simp)]
  go_enter Try.func28, Try.ntmps28
  go_wp2_with (go_at_call 15; rw [← hW0]; refine (Ik.implIp_any _ _ _ _ _ _ _ _).mono ?_; rw [hok]; rintro e wa ⟨rfl, hba⟩; replace k1 := (hba.block _ (by omega)).trans k1; replace k0 := (hba.block _ (by omega)).trans k0; obtain ⟨x0, x1, x2, x3, x4⟩ := five k0; obtain ⟨c0, c1, c2, c3, c4⟩ := five k1; have f1 := Bl.free k1)
  refine bodyPost_ret (v := .tuple #[.agg #[.int .i64 0, .int .i64 0, .int .i64 0, .int .i64 0, .slice none 0 0], .bool false]) (by simp [results, Try.results28, go_sem, c0, c1, c2, c3, c4]) rfl ⟨rfl, ?_⟩
  exact ((((((next B0 hba).setCell (by simp) _).setCell (by simp) _).setCell (by simp) _).setCell (by simp) _).setCell (by simp) _)

set_option maxHeartbeats 1000000 in
theorem specNo (t p s d : Int) (a : Option Addr) (n c : Nat) (w : World) (hok : Ik.okI t p s d n = false) :
    Calls Try.prog 27 #[.agg #[.int .i64 t, .int .i64 p, .int .i64 s, .int .i64 d, .slice a n c]] w (No w) := by
  obtain ⟨W0, hW0⟩ : ∃ W0, W0 = (w.alloc (.cells #[.int .i64 t, .int .i64 p, .int .i64 s, .int .i64 d, .slice a n c] 27)).alloc (.cells #[.int .i64 0, .int .i64 0, .int .i64 0, .int .i64 0, .slice none 0 0] 27) := ⟨_, rfl⟩
  have B0 : Below w.heap.size w W0 := by subst hW0; exact next (below_alloc1 _ _) (below_alloc1 _ _)
  have z0 : W0.heap.size = w.heap.size + 2 := by subst hW0; simp
  have k0 : W0.heap[w.heap.size]? = some (.cells #[.int .i64 t, .int .i64 p, .int .i64 s, .int .i64 d, .slice a n c] 27 (0, 0)) := by subst hW0; rw [at_old (by simp), at_new (by simp)]
  have k1 : W0.heap[w.heap.size + 1]? = some (.cells #[.int .i64 0, .int .i64 0, .int .i64 0, .int .i64 0, .slice none 0 0] 27 (0, 0)) := by subst hW0; rw [at_new (by simp)]
  go_enter Try.func27, Try.ntmps27
  go_wp2_with (go_at_call 13; rw [← hW0]; refine (Ik.specIp_any _ _ _ _ _ _ _ _).mono ?_; rw [hok]; rintro e wa ⟨rfl, hba⟩; replace k1 := (hba.block _ (by omega)).trans k1; replace k0 := (hba.block _ (by omega)).trans k0; obtain ⟨x0, x1, x2, x3, x4⟩ := five k0; obtain ⟨c0, c1, c2, c3, c4⟩ := five k1; have f1 := Bl.free k1)
  refine bodyPost_ret (v := .tuple #[.agg #[.int .i64 0, .int .i64 0, .int .i64 0, .int .i64 0, .slice none 0 0], .bool false]) (by simp [results, Try.results27, go_sem, c0, c1, c2, c3, c4]) rfl ⟨rfl, ?_⟩
  exact ((((((next B0 hba).setCell (by simp) _).setCell (by simp) _).setCell (by simp) _).setCell (by simp) _).setCell (by simp) _)

set_option maxHeartbeats 1000000 in
theorem specLow (t p s d : Int) (a : Option Addr) (n c : Nat) (w : World) (hok : Ik.okI t p s d n = true) (ht : t < 2) :
    Calls Try.prog 27 #[.agg #[.int .i64 t, .int .i64 p, .int .i64 s, .int .i64 d, .slice a n c]] w (No w) := by
  obtain ⟨W0, hW0⟩ : ∃ W0, W0 = (w.alloc (.cells #[.int .i64 t, .int .i64 p, .int .i64 s, .int .i64 d, .slice a n c] 27)).alloc (.cells #[.int .i64 0, .int .i64 0, .int .i64 0, .int .i64 0, .slice none 0 0] 27) := ⟨_, rfl⟩
  have B0 : Below w.heap.size w W0 := by subst hW0; exact next (below_alloc1 _ _) (below_alloc1 _ _)
  have z0 : W0.heap.size = w.heap.size + 2 := by subst hW0; simp
  have k0 : W0.heap[w.heap.size]? = some (.cells #[.int .i64 t, .int .i64 p, .int .i64 s, .int .i64 d, .slice a n c] 27 (0, 0)) := by subst hW0; rw [at_old (by simp), at_new (by simp)]
  have k1 : W0.heap[w.heap.size + 1]? = some (.cells #[.int .i64 0, .int .i64 0, .int .i64 0, .int .i64 0, .slice none 0 0] 27 (0, 0)) := by subst hW0; rw [at_new (by simp)]
  go_enter Try.func27, Try.ntmps27
  go_wp2_with (go_at_call 13; rw [← hW0]; refine (Ik.specIp_any _ _ _ _ _ _ _ _).mono ?_; rw [hok]; rintro e wa ⟨rfl, hba⟩; replace k1 := (hba.block _ (by omega)).trans k1; replace k0 := (hba.block _ (by omega)).trans k0; obtain ⟨x0, x1, x2, x3, x4⟩ := five k0; obtain ⟨c0, c1, c2, c3, c4⟩ := five k1; have f1 := Bl.free k1)
  refine bodyPost_ret (v := .tuple #[.agg #[.int .i64 0, .int .i64 0, .int .i64 0, .int .i64 0, .slice none 0 0], .bool false]) (by simp [results, Try.results27, go_sem, c0, c1, c2, c3, c4]) rfl ⟨rfl, ?_⟩
  exact ((((((next B0 hba).setCell (by simp) _).setCell (by simp) _).setCell (by simp) _).setCell (by simp) _).setCell (by simp) _)

set_option maxHeartbeats 1600000 in
theorem implYes (t p s d : Int) (a : Option Addr) (b off cap : Nat) (l : List Int) (w : World) (h : Rd w a b off l) (hcap : a = none → cap = 0) (hok : Ik.okI t p s d l.length = true) (hlow : 2 ≤ t) :
    Calls Try.prog 28 #[.agg #[.int .i64 t, .int .i64 p, .int .i64 s, .int .i64 d, .slice a l.length cap]] w (Lw.ResB w (t - 1) p s d true l) := by
  have ht0 := (ok1 (Ik.okI_parts hok).1).1
  have ht5 := (ok1 (Ik.okI_parts hok).1).2
  have ht2 : ¬ t < 2 := by omega
  have hbl := Lw.rd_lt h
  obtain ⟨W0, hW0⟩ : ∃ W0, W0 = (w.alloc (.cells #[.int .i64 t, .int .i64 p, .int .i64 s, .int .i64 d, .slice a l.length cap] 27)).alloc (.cells #[.int .i64 0, .int .i64 0, .int .i64 0, .int .i64 0, .slice none 0 0] 27) := ⟨_, rfl⟩
  have B0 : Below w.heap.size w W0 := by subst hW0; exact next (below_alloc1 _ _) (below_alloc1 _ _)
  have z0 : W0.heap.size = w.heap.size + 2 := by subst hW0; simp
  have k0 : W0.heap[w.heap.size]? = some (.cells #[.int .i64 t, .int .i64 p, .int .i64 s, .int .i64 d, .slice a l.length cap] 27 (0, 0)) := by subst hW0; rw [at_old (by simp), at_new (by simp)]
  have k1 : W0.heap[w.heap.size + 1]? = some (.cells #[.int .i64 0, .int .i64 0, .int .i64 0, .int .i64 0, .slice none 0 0] 27 (0, 0)) := by subst hW0; rw [at_new (by simp)]
  replace h := h.below B0
  go_enter Try.func28, Try.ntmps28
  go_wp2_with (first | (go_at_call 56; refine (clone_any _ _ _ _ _ _ hS hcap).mono ?_; rintro e wb ⟨a', g, cap', rfl, hwt, hg, hcap', hbb⟩; clear c0 c1 c2 c3 c4 f0 k0 k1; have k1 := (hbb.block _ (by omega)).trans HK1.out; have k0 := (hbb.block _ (by omega)).trans HK0.out; obtain ⟨c0, c1, c2, c3, c4⟩ := five k0; obtain ⟨x0, x1, x2, x3, x4⟩ := five k1; have f0 := Bl.free k0; have f1 := Bl.free k1) | (go_at_call 15; rw [← hW0]; refine (Ik.implIp_any _ _ _ _ _ _ _ _).mono ?_; rw [hok]; rintro e wa ⟨rfl, hba⟩; clear hW0; replace k1 := (hba.block _ (by omega)).trans k1; replace k0 := (hba.block _ (by omega)).trans k0; replace h := h.below hba; replace B0 := next B0 hba; have za := hba.size; clear hba; have hS := rd_set (ad := ⟨w.heap.size, 0, none⟩) (u := .int .i64 (t - 1)) h (by rcases hbl with h0 | h0; exact .inl h0; exact .inr (by simp; omega)); have HK0 := hide (set0 (u := .int .i64 (t - 1)) k0); have HK1 := hide ((far (ad := ⟨w.heap.size, 0, none⟩) (u := .int .i64 (t - 1)) (by simp)).trans k1); have BS : Below w.heap.size w (wa.setCell ⟨w.heap.size, 0, none⟩ (.int .i64 (t - 1))) := B0.setCell (by simp) _; have zs : (wa.setCell ⟨w.heap.size, 0, none⟩ (.int .i64 (t - 1))).heap.size = wa.heap.size := (by simp); obtain ⟨c0, c1, c2, c3, c4⟩ := five k0; have f0 := Bl.free k0))
  refine bodyPost_ret (v := .tuple #[.agg #[.int .i64 (t - 1), .int .i64 p, .int .i64 s, .int .i64 d, .slice a' l.length cap'], .bool true]) (by simp [results, Try.results28, go_sem, x0, x1, x2, x3, x4]) rfl ⟨_, g, _, rfl, ?_, by omega, hcap', ?_⟩
  · exact Tg.wt_set (Tg.wt_set (Tg.wt_set (Tg.wt_set (Tg.wt_set (Tg.wt_set hwt (by simp; omega)) (by simp; omega)) (by simp; omega)) (by simp; omega)) (by simp; omega)) (by simp; omega)
  · exact (((((((next BS hbb).setCell (by simp) _).setCell (by simp) _).setCell (by simp) _).setCell (by simp) _).setCell (by simp) _).setCell (by simp) _)

set_option maxHeartbeats 1600000 in
theorem specYes (t p s d : Int) (a : Option Addr) (b off cap : Nat) (l : List Int) (w : World) (h : Rd w a b off l) (hok : Ik.okI t p s d l.length = true) (hlow : 2 ≤ t) :
    Calls Try.prog 27 #[.agg #[.int .i64 t, .int .i64 p, .int .i64 s, .int .i64 d, .slice a l.length cap]] w (Lw.ResB w (t - 1) p s d true l) := by
  have ht0 := (ok1 (Ik.okI_parts hok).1).1
  have ht5 := (ok1 (Ik.okI_parts hok).1).2
  have ht2 : ¬ t < 2 := by omega
  have hbl := Lw.rd_lt h
  obtain ⟨W0, hW0⟩ : ∃ W0, W0 = (w.alloc (.cells #[.int .i64 t, .int .i64 p, .int .i64 s, .int .i64 d, .slice a l.length cap] 27)).alloc (.cells #[.int .i64 0, .int .i64 0, .int .i64 0, .int .i64 0, .slice none 0 0] 27) := ⟨_, rfl⟩
  have B0 : Below w.heap.size w W0 := by subst hW0; exact next (below_alloc1 _ _) (below_alloc1 _ _)
  have z0 : W0.heap.size = w.heap.size + 2 := by subst hW0; simp
  have k0 : W0.heap[w.heap.size]? = some (.cells #[.int .i64 t, .int .i64 p, .int .i64 s, .int .i64 d, .slice a l.length cap] 27 (0, 0)) := by subst hW0; rw [at_old (by simp), at_new (by simp)]
  have k1 : W0.heap[w.heap.size + 1]? = some (.cells #[.int .i64 0, .int .i64 0, .int .i64 0, .int .i64 0, .slice none 0 0] 27 (0, 0)) := by subst hW0; rw [at_new (by simp)]
  replace h := h.below B0
  have hs := h.size
  have hy := h.byt
  go_enter Try.func27, Try.ntmps27
  go_wp2_with (first | (at_builtin; refine wpList_app rfl (.tmp 17) (.tmp 19) rfl wa.heap.size _ [] l rfl O0 a b off cap rfl hA (by simp; omega) (by simp) ?_; intro v' wb hown hgrow; obtain ⟨g, cap', hv, hg, hwt⟩ := hasI_form hown (by simpa using hs) (by simpa using hy); have hbb := below_own O0 BE (by omega) hgrow; subst hv; simp only [List.nil_append] at hwt; clear c0 c1 c2 c3 c4 f0 k0 k1; have k1 := (hbb.block _ (by omega)).trans HK1.out; have k0 := (hbb.block _ (by omega)).trans HK0.out; obtain ⟨c0, c1, c2, c3, c4⟩ := five k0; obtain ⟨x0, x1, x2, x3, x4⟩ := five k1; have f0 := Bl.free k0; have f1 := Bl.free k1) | (go_at_call 13; rw [← hW0]; refine (Ik.specIp_any _ _ _ _ _ _ _ _).mono ?_; rw [hok]; rintro e wa ⟨rfl, hba⟩; clear hW0; replace k1 := (hba.block _ (by omega)).trans k1; replace k0 := (hba.block _ (by omega)).trans k0; replace h := h.below hba; replace B0 := next B0 hba; have za := hba.size; clear hba; have hS := rd_set (ad := ⟨w.heap.size, 0, none⟩) (u := .int .i64 (t - 1)) h (by rcases hbl with h0 | h0; exact .inl h0; exact .inr (by simp; omega)); have HK0 := hide (set0 (u := .int .i64 (t - 1)) k0); have HK1 := hide ((far (ad := ⟨w.heap.size, 0, none⟩) (u := .int .i64 (t - 1)) (by simp)).trans k1); have BS : Below w.heap.size w (wa.setCell ⟨w.heap.size, 0, none⟩ (.int .i64 (t - 1))) := B0.setCell (by simp) _; have zs : (wa.setCell ⟨w.heap.size, 0, none⟩ (.int .i64 (t - 1))).heap.size = wa.heap.size := (by simp); obtain ⟨c0, c1, c2, c3, c4⟩ := five k0; have f0 := Bl.free k0; have BE := below_alloc1 (wa.setCell ⟨w.heap.size, 0, none⟩ (.int .i64 (t - 1))) (.cells #[] 5); have O0 := own_empty (wa.setCell ⟨w.heap.size, 0, none⟩ (.int .i64 (t - 1))); rw [zs] at O0; have hA := hS.below BE; have e0 := (Bl.cell ((BE.block _ (by omega)).trans HK0.out) 4)))
  refine bodyPost_ret (v := .tuple #[.agg #[.int .i64 (t - 1), .int .i64 p, .int .i64 s, .int .i64 d, .slice (some ⟨g, 0, none⟩) l.length cap'], .bool true]) (by simp [results, Try.results27, go_sem, x0, x1, x2, x3, x4]) rfl ⟨_, g, _, rfl, ?_, by omega, fun h => by simp at h, ?_⟩
  · exact Tg.wt_set (Tg.wt_set (Tg.wt_set (Tg.wt_set (Tg.wt_set (Tg.wt_set hwt (by simp; omega)) (by simp; omega)) (by simp; omega)) (by simp; omega)) (by simp; omega)) (by simp; omega)
  · exact (((((((next BS hbb).setCell (by simp) _).setCell (by simp) _).setCell (by simp) _).setCell (by simp) _).setCell (by simp) _).setCell (by simp) _)

theorem hop (t p s d : Int) (l : List Int) : ∃ T P S D OK L,
    (∀ a b off cap w, Rd w a b off l → (a = none → cap = 0) → Calls Try.prog 28 #[.agg #[.int .i64 t, .int .i64 p, .int .i64 s, .int .i64 d, .slice a l.length cap]] w (Lw.ResB w T P S D OK L)) ∧
    (∀ a b off cap w, Rd w a b off l → Calls Try.prog 27 #[.agg #[.int .i64 t, .int .i64 p, .int .i64 s, .int .i64 d, .slice a l.length cap]] w (Lw.ResB w T P S D OK L)) := by
  cases hok : Ik.okI t p s d l.length with
  | true =>
    by_cases ht : t < 2
    · exact ⟨0, 0, 0, 0, false, [], fun a b off cap w _ _ => (implLow t p s d a _ cap w hok ht).mono fun e w' h => res_no h, fun a b off cap w _ => (specLow t p s d a _ cap w hok ht).mono fun e w' h => res_no h⟩
    · exact ⟨t - 1, p, s, d, true, l, fun a b off cap w h hc => implYes t p s d a b off cap l w h hc hok (by omega), fun a b off cap w h => specYes t p s d a b off cap l w h hok (by omega)⟩
  | false => exact ⟨0, 0, 0, 0, false, [], fun a b off cap w _ _ => (implNo t p s d a _ cap w hok).mono fun e w' h => res_no h, fun a b off cap w _ => (specNo t p s d a _ cap w hok).mono fun e w' h => res_no h⟩

end Go.Proofs.Ytjbjlmaeaajlhaa.Ho
