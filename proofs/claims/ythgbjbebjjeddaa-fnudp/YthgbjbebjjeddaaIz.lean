/-
  The contract of the program's IpRead where it reads a datagram, with the room of what it hands back.
-/
import Derived.Test.YthgbjbebjjeddaaIr
namespace Go.Proofs.Ythgbjbebjjeddaa.Iz
open Go Go.RowKit
open Num Rw Mk Un Put Pl App Pf Pb Ipl Hp Hd Su Cd Ir
set_option maxRecDepth 4000

/-- A datagram and a code, with the room of its data. -/
def ResR (w : World) (t p s d c : Int) (L : List Int) (e : Ending) (w' : World) : Prop :=
  ∃ a g cap, e = .returned (.tuple #[.agg #[.int .i64 t, .int .i64 p, .int .i64 s, .int .i64 d, .slice a L.length cap], .int .i64 c]) ∧ Wt w' a g L ∧ w.heap.size ≤ g ∧ ((a = none → cap = 0) ∧ L.length ≤ cap) ∧ Below w.heap.size w w'
theorem res_of {w : World} {t p s d c : Int} {L : List Int} {e : Ending} {w' : World} (h : ResR w t p s d c L e w') : ResC w t p s d c L e w' := by
  obtain ⟨a, g, cap, h1, h2, h3, h4, h5⟩ := h
  exact ⟨a, g, cap, h1, h2, h3, h4.1, h5⟩

set_option maxHeartbeats 4000000 in
theorem ipYesA (b off cap : Nat) (l : List Int) (w : World) (h : Rd w (some ⟨b, off, none⟩) b off l) (hcap : l.length ≤ cap) (hc : code l = 0) (h20 : 20 ≤ l.length) (t p s d : Int) (Ht : Hid (t = Get.acc l 8 1)) (Hp : Hid (p = Get.acc l 9 1)) (Hs : Hid (s = Get.acc l 12 4)) (Hd : Hid (d = Get.acc l 16 4)) (hcz : cap = 20) :
    Calls Try.prog 14 #[.slice (some ⟨b, off, none⟩) l.length cap] w (ResR w t p s d 0 (l.drop 20)) := by
  subst hcz
  have hs := h.size
  obtain ⟨q, hq⟩ : ∃ q, q = l.drop 20 := ⟨_, rfl⟩
  have HDL : Hid (q.length = 0) := by unfold Hid; rw [hq, List.length_drop]; omega
  have HR : Hid (∀ W, Rd W (some ⟨b, off, none⟩) b off l → Rd W (some ⟨b, off, none⟩) b off q) := fun W _ => by have e : q = [] := (by rw [hq]; exact List.drop_of_length_le (by omega)); rw [e]; exact rd_none W _ b off
  rw [← hq]
  have hnz : (l.length : Int) - 20 = (0 : Int) := by omega
  have hnn : l.length - 20 = 0 := by omega
  have hq0 : (20 : Int) ≤ (l.length : Int) := by omega
  have hq1 : (20 : Int) ≤ (20 : Int) := by omega
  have hlc : (l.length : Int) ≤ (20 : Int) := by omega
  obtain ⟨W0, hW0⟩ : ∃ W0, W0 = w.alloc (.cells #[.int .i64 0, .int .i64 0, .int .i64 0, .int .i64 0, .slice none 0 0] 26) := ⟨_, rfl⟩
  have B : Below w.heap.size w W0 := by subst hW0; exact below_alloc1 _ _
  have k : W0.heap[w.heap.size]? = some (.cells #[.int .i64 0, .int .i64 0, .int .i64 0, .int .i64 0, .slice none 0 0] 26 (0, 0)) := by subst hW0; exact at_new rfl
  have z : w.heap.size < W0.heap.size := by subst hW0; simp
  replace h := h.below B
  have HC := ip_any _ b off 20 l W0 h hcap
  rw [hc] at HC
  have tok0 : True := trivial
  clear hq
  go_enter Try.func14, Try.ntmps14
  go_wp2_with (go_at_call 51; rw [← hW0]; refine HC.mono ?_; rintro e w0 ⟨rfl, hb⟩; clear hW0 HC; replace B := next B hb; replace k := (hb.block _ z).trans k; replace z := Nat.lt_of_lt_of_le z hb.size; replace h := h.below hb; clear hb; have z0 := z)
  have hI : Inv w0 b off l w0 := ⟨h, Below.refl _ _⟩
  have hbl := Lw.rd_lt h
  clear h
  go_region_held3 (fun W => Inv w0 b off l W) (first | (with_reducible assumption) | (with_reducible exact hI.drew) | (with_reducible exact Inv.alloc (by assumption) _) | (with_reducible exact (Inv.alloc hI _).drew) | (repeat (first | (with_reducible assumption) | (with_reducible refine Inv.set ?_ _ _ ?_ ?_; rotate_left; (simp <;> omega); (simp <;> omega)) | (with_reducible exact Inv.alloc (by assumption) _))))
    (first
    | (go_at_call 52; refine (ends12 b off 20 l _ ?hr (by omega) s d Hs Hd).mono ?_; (case hr => with_reducible exact Inv.rd (by assumption)); rintro e w1 ⟨rfl, hb⟩; have hI1 := Inv.next (w0 := w0) (b := b) (off := off) (l := l) (by assumption) hb; (try (have kXZ := kept_new (W := w0.drew) (cs := #[.int .i64 0, .int .i64 0, .int .i64 0, .int .i64 0, .int .i64 0, .slice none 0 0]) (t := 80) hb)); (try (have kXZ := kept_new (W := w0) (cs := #[.int .i64 0, .int .i64 0, .int .i64 0, .int .i64 0, .int .i64 0, .slice none 0 0]) (t := 80) hb)); (try (have kX : w1.heap[w0.heap.size]? = some (.cells #[.int .i64 0, .int .i64 0, .int .i64 0, .int .i64 0, .int .i64 0, .slice none 0 0] 80 (0, 0)) := kXZ.1; have zX : w0.heap.size < w1.heap.size := kXZ.2; clear kXZ)); (try (have zX1 := zX)); clear hb; have z1 := hI1.kept.size)
    | (go_at_call 53; clear tok1; refine (num _ b off 20 9 1 l _ ?hr (by decide) (by decide) (by omega) p Hp.out).mono ?_; (case hr => with_reducible exact Inv.rd (by assumption)); rintro e w' ⟨rfl, hw'⟩; replace hw' := hw'.symm; subst hw'; have tok2 : True := trivial)
    | (go_at_call 53; clear tok0; refine (num _ b off 20 8 1 l _ ?hr (by decide) (by decide) (by omega) t Ht.out).mono ?_; (case hr => with_reducible exact Inv.rd (by assumption)); rintro e w' ⟨rfl, hw'⟩; replace hw' := hw'.symm; subst hw'; have tok1 : True := trivial)
    | (go_at_call 54; refine (clone_room ⟨b, off, none⟩ b off 0 0 q _ ?hr HDL.out).mono ?_; (case hr => with_reducible exact HR.out _ (Inv.rd (by assumption))); rintro e w4 ⟨g, c4, rfl, hwt, hc4, hg, hb⟩; have hI4 := Inv.next (w0 := w0) (b := b) (off := off) (l := l) (by assumption) hb; (try (have kXZ := kept_new (W := w1) (cs := #[.int .i64 0, .int .i64 0, .int .i64 0, .int .i64 0, .int .i64 0, .slice none 0 0]) (t := 80) hb)); (try (replace kX := (hb.block _ zX).trans kX; replace zX := Nat.lt_of_lt_of_le zX hb.size)); (try (have kX : w4.heap[w1.heap.size]? = some (.cells #[.int .i64 0, .int .i64 0, .int .i64 0, .int .i64 0, .int .i64 0, .slice none 0 0] 80 (0, 0)) := kXZ.1; have zX : w1.heap.size < w4.heap.size := kXZ.2; clear kXZ)); (first | (have hg1 : w1.heap.size ≤ g := hg) | (have hg2 : w1.heap.size < g := new_lt hg; have hg1 := Nat.le_of_lt hg2)); clear hg hb; have k4 := (hI4.kept.block _ z).trans k; have z4 := hI4.kept.size; have zw4 := Nat.lt_of_lt_of_le z z4; have B4 := Rw.next B hI4.kept; obtain ⟨y0, y1, y2, y3, y4⟩ := five k4; have f1 := Bl.free k4; (try (have fX := Bl.free kX; have hxx := six kX; obtain ⟨x0, x1, x2, x3, x4, x5⟩ := hxx))))
  all_goals go_wp2
  all_goals
    refine bodyPost_ret (v := .tuple #[.agg #[.int .i64 t, .int .i64 p, .int .i64 s, .int .i64 d, .slice (some ⟨g, 0, none⟩) 0 c4], .int .i64 0]) (by simp [results, Try.results14, go_sem, y0, y1, y2, y3, y4, zw4]) rfl ⟨some ⟨g, 0, none⟩, g, c4, by rw [HDL.out], ?_, by omega, ⟨by simp, by rw [HDL.out]; exact hc4⟩, ?_⟩
    · repeat (first | (with_reducible exact hwt) | (with_reducible refine Tg.wt_set ?_ ?_; rotate_left; (simp <;> omega)) | (with_reducible refine wt_new ?_))
    · repeat (first | (with_reducible exact B4) | (with_reducible refine bset ?_ _ _ ?_; rotate_left; (simp <;> omega)) | (with_reducible refine b_new ?_))

set_option maxHeartbeats 4000000 in
theorem ipYesB (b off cap : Nat) (l : List Int) (w : World) (h : Rd w (some ⟨b, off, none⟩) b off l) (hcap : l.length ≤ cap) (hc : code l = 0) (h20 : 20 ≤ l.length) (t p s d : Int) (Ht : Hid (t = Get.acc l 8 1)) (Hp : Hid (p = Get.acc l 9 1)) (Hs : Hid (s = Get.acc l 12 4)) (Hd : Hid (d = Get.acc l 16 4)) (hcz : ¬ cap = 20) :
    Calls Try.prog 14 #[.slice (some ⟨b, off, none⟩) l.length cap] w (ResR w t p s d 0 (l.drop 20)) := by
  have hs := h.size
  obtain ⟨n, hn⟩ : ∃ n, n = l.length - 20 := ⟨_, rfl⟩
  obtain ⟨q, hq⟩ : ∃ q, q = l.drop 20 := ⟨_, rfl⟩
  have HDL : Hid (q.length = n) := by unfold Hid; rw [hq, List.length_drop]; omega
  have HR : Hid (∀ W, Rd W (some ⟨b, off, none⟩) b off l → Rd W (some ⟨b, off + 20, none⟩) b (off + 20) q) := fun W hW => by rw [hq]; exact Pr.rd_drop hW 20
  rw [← hq]
  have hnz : (l.length : Int) - 20 = (n : Int) := by omega
  have hnn : l.length - 20 = n := by omega
  have hq0 : (20 : Int) ≤ (l.length : Int) := by omega
  have hq1 : (20 : Int) ≤ (cap : Int) := by omega
  have hlc : (l.length : Int) ≤ (cap : Int) := by omega
  obtain ⟨W0, hW0⟩ : ∃ W0, W0 = w.alloc (.cells #[.int .i64 0, .int .i64 0, .int .i64 0, .int .i64 0, .slice none 0 0] 26) := ⟨_, rfl⟩
  have B : Below w.heap.size w W0 := by subst hW0; exact below_alloc1 _ _
  have k : W0.heap[w.heap.size]? = some (.cells #[.int .i64 0, .int .i64 0, .int .i64 0, .int .i64 0, .slice none 0 0] 26 (0, 0)) := by subst hW0; exact at_new rfl
  have z : w.heap.size < W0.heap.size := by subst hW0; simp
  replace h := h.below B
  have HC := ip_any _ b off cap l W0 h hcap
  rw [hc] at HC
  have tok0 : True := trivial
  clear hq
  clear hn
  go_enter Try.func14, Try.ntmps14
  go_wp2_with (go_at_call 51; rw [← hW0]; refine HC.mono ?_; rintro e w0 ⟨rfl, hb⟩; clear hW0 HC; replace B := next B hb; replace k := (hb.block _ z).trans k; replace z := Nat.lt_of_lt_of_le z hb.size; replace h := h.below hb; clear hb; have z0 := z)
  have hI : Inv w0 b off l w0 := ⟨h, Below.refl _ _⟩
  have hbl := Lw.rd_lt h
  clear h
  go_region_held3 (fun W => Inv w0 b off l W) (first | (with_reducible assumption) | (with_reducible exact hI.drew) | (with_reducible exact Inv.alloc (by assumption) _) | (with_reducible exact (Inv.alloc hI _).drew) | (repeat (first | (with_reducible assumption) | (with_reducible refine Inv.set ?_ _ _ ?_ ?_; rotate_left; (simp <;> omega); (simp <;> omega)) | (with_reducible exact Inv.alloc (by assumption) _))))
    (first
    | (go_at_call 52; refine (ends12 b off cap l _ ?hr (by omega) s d Hs Hd).mono ?_; (case hr => with_reducible exact Inv.rd (by assumption)); rintro e w1 ⟨rfl, hb⟩; have hI1 := Inv.next (w0 := w0) (b := b) (off := off) (l := l) (by assumption) hb; (try (have kXZ := kept_new (W := w0.drew) (cs := #[.int .i64 0, .int .i64 0, .int .i64 0, .int .i64 0, .int .i64 0, .slice none 0 0]) (t := 80) hb)); (try (have kXZ := kept_new (W := w0) (cs := #[.int .i64 0, .int .i64 0, .int .i64 0, .int .i64 0, .int .i64 0, .slice none 0 0]) (t := 80) hb)); (try (have kX : w1.heap[w0.heap.size]? = some (.cells #[.int .i64 0, .int .i64 0, .int .i64 0, .int .i64 0, .int .i64 0, .slice none 0 0] 80 (0, 0)) := kXZ.1; have zX : w0.heap.size < w1.heap.size := kXZ.2; clear kXZ)); (try (have zX1 := zX)); clear hb; have z1 := hI1.kept.size)
    | (go_at_call 53; clear tok1; refine (num _ b off cap 9 1 l _ ?hr (by decide) (by decide) (by omega) p Hp.out).mono ?_; (case hr => with_reducible exact Inv.rd (by assumption)); rintro e w' ⟨rfl, hw'⟩; replace hw' := hw'.symm; subst hw'; have tok2 : True := trivial)
    | (go_at_call 53; clear tok0; refine (num _ b off cap 8 1 l _ ?hr (by decide) (by decide) (by omega) t Ht.out).mono ?_; (case hr => with_reducible exact Inv.rd (by assumption)); rintro e w' ⟨rfl, hw'⟩; replace hw' := hw'.symm; subst hw'; have tok1 : True := trivial)
    | (go_at_call 54; refine (clone_room ⟨b, off + 20, none⟩ b (off + 20) (cap - 20) n q _ ?hr HDL.out).mono ?_; (case hr => with_reducible exact HR.out _ (Inv.rd (by assumption))); rintro e w4 ⟨g, c4, rfl, hwt, hc4, hg, hb⟩; have hI4 := Inv.next (w0 := w0) (b := b) (off := off) (l := l) (by assumption) hb; (try (have kXZ := kept_new (W := w1) (cs := #[.int .i64 0, .int .i64 0, .int .i64 0, .int .i64 0, .int .i64 0, .slice none 0 0]) (t := 80) hb)); (try (replace kX := (hb.block _ zX).trans kX; replace zX := Nat.lt_of_lt_of_le zX hb.size)); (try (have kX : w4.heap[w1.heap.size]? = some (.cells #[.int .i64 0, .int .i64 0, .int .i64 0, .int .i64 0, .int .i64 0, .slice none 0 0] 80 (0, 0)) := kXZ.1; have zX : w1.heap.size < w4.heap.size := kXZ.2; clear kXZ)); (first | (have hg1 : w1.heap.size ≤ g := hg) | (have hg2 : w1.heap.size < g := new_lt hg; have hg1 := Nat.le_of_lt hg2)); clear hg hb; have k4 := (hI4.kept.block _ z).trans k; have z4 := hI4.kept.size; have zw4 := Nat.lt_of_lt_of_le z z4; have B4 := Rw.next B hI4.kept; obtain ⟨y0, y1, y2, y3, y4⟩ := five k4; have f1 := Bl.free k4; (try (have fX := Bl.free kX; have hxx := six kX; obtain ⟨x0, x1, x2, x3, x4, x5⟩ := hxx))))
  all_goals go_wp2
  all_goals
    refine bodyPost_ret (v := .tuple #[.agg #[.int .i64 t, .int .i64 p, .int .i64 s, .int .i64 d, .slice (some ⟨g, 0, none⟩) n c4], .int .i64 0]) (by simp [results, Try.results14, go_sem, y0, y1, y2, y3, y4, zw4]) rfl ⟨some ⟨g, 0, none⟩, g, c4, by rw [HDL.out], ?_, by omega, ⟨by simp, by rw [HDL.out]; exact hc4⟩, ?_⟩
    · repeat (first | (with_reducible exact hwt) | (with_reducible refine Tg.wt_set ?_ ?_; rotate_left; (simp <;> omega)) | (with_reducible refine wt_new ?_))
    · repeat (first | (with_reducible exact B4) | (with_reducible refine bset ?_ _ _ ?_; rotate_left; (simp <;> omega)) | (with_reducible refine b_new ?_))

end Go.Proofs.Ythgbjbebjjeddaa.Iz
