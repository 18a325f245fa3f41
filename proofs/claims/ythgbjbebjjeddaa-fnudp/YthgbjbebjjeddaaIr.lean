/-
  The program's IpRead and UdpRead: what they answer, on every slice of bytes.
-/
import Derived.Test.YthgbjbebjjeddaaCd
import Derived.Test.YthgbjbebjjeddaaHo
namespace Go.Proofs.Ythgbjbebjjeddaa.Ir
open Go Go.RowKit
open Num Rw Mk Un Put Pl App Pf Pb Ipl Hp Hd Su Cd
set_option maxRecDepth 4000
set_option linter.unusedVariables false

/-- A datagram and a code are handed back, the bytes in memory of the call's own. -/
def ResC (w : World) (t p s d c : Int) (L : List Int) (e : Ending) (w' : World) : Prop :=
  ∃ a g cap, e = .returned (.tuple #[.agg #[.int .i64 t, .int .i64 p, .int .i64 s, .int .i64 d, .slice a L.length cap], .int .i64 c]) ∧ Wt w' a g L ∧ w.heap.size ≤ g ∧ (a = none → cap = 0) ∧ Below w.heap.size w w'
/-- An inner datagram and a code. -/
def ResU (w : World) (s d c : Int) (L : List Int) (e : Ending) (w' : World) : Prop :=
  ∃ a g cap, e = .returned (.tuple #[.agg #[.int .i64 s, .int .i64 d, .slice a L.length cap], .int .i64 c]) ∧ Wt w' a g L ∧ w.heap.size ≤ g ∧ (a = none → cap = 0) ∧ Below w.heap.size w w'

theorem kept_new {W w1 : World} {cs : Array Value} {t : TypeId} (hb : Below (W.alloc (.cells cs t)).heap.size (W.alloc (.cells cs t)) w1) : w1.heap[W.heap.size]? = some (.cells cs t (0, 0)) ∧ W.heap.size < w1.heap.size := by
  have h1 : W.heap.size < (W.alloc (.cells cs t)).heap.size := by simp
  exact ⟨(hb.block _ h1).trans (at_new rfl), Nat.lt_of_lt_of_le h1 hb.size⟩
/-- What stands throughout: the bytes that are read, and all that was there. -/
structure Inv (w0 : World) (b off : Nat) (l : List Int) (W : World) : Prop where
  rd : Rd W (some ⟨b, off, none⟩) b off l
  kept : Below w0.heap.size w0 W
theorem Inv.drew {w0 W : World} {b off : Nat} {l : List Int} (h : Inv w0 b off l W) : Inv w0 b off l W.drew := ⟨h.rd.below ((Below.refl _ _).drew), next h.kept ((Below.refl _ _).drew)⟩
theorem Inv.alloc {w0 W : World} {b off : Nat} {l : List Int} (h : Inv w0 b off l W) (o : Obj) : Inv w0 b off l (W.alloc o) := ⟨h.rd.below (below_alloc1 _ _), next h.kept (below_alloc1 _ _)⟩
theorem Inv.next {w0 W W' : World} {b off : Nat} {l : List Int} (h : Inv w0 b off l W) (hb : Below W.heap.size W W') : Inv w0 b off l W' := ⟨h.rd.below hb, Rw.next h.kept hb⟩
theorem Inv.set {w0 W : World} {b off : Nat} {l : List Int} (h : Inv w0 b off l W) (ad : Addr) (u : Value) (hb : l.length = 0 ∨ ¬ ad.block = b) (hk : w0.heap.size ≤ ad.block) : Inv w0 b off l (W.setCell ad u) := ⟨Ho.rd_set h.rd hb, h.kept.setCell hk u⟩
theorem wt_new {W : World} {o : Obj} {a : Option Addr} {g : Nat} {l : List Int} (h : Wt W a g l) : Wt (W.alloc o) a g l := h.below (below_alloc1 _ _)
theorem b_new {w W : World} {o : Obj} (h : Below w.heap.size w W) : Below w.heap.size w (W.alloc o) := Rw.next h (below_alloc1 _ _)
theorem new_lt {W : World} {o : Obj} {g : Nat} (h : (W.alloc o).heap.size ≤ g) : W.heap.size < g := by simp at h; omega
theorem rd_none (W : World) (a : Option Addr) (b off : Nat) : Rd W a b off [] := ⟨fun h => by simp at h, fun i h => by simp at h, by simp, fun n h => by simp at h⟩
theorem bset {w w' : World} (h : Below w.heap.size w w') (ad : Addr) (u : Value) (hb : w.heap.size ≤ ad.block) : Below w.heap.size w (w'.setCell ad u) := h.setCell hb u

set_option maxHeartbeats 1000000 in
theorem ipNo (a : Option Addr) (b off cap : Nat) (l : List Int) (w : World) (h : Rd w a b off l) (hcap : l.length ≤ cap) (hc : ¬ code l = 0) :
    Calls Try.prog 14 #[.slice a l.length cap] w (ResC w 0 0 0 0 (code l) []) := by
  obtain ⟨W0, hW0⟩ : ∃ W0, W0 = w.alloc (.cells #[.int .i64 0, .int .i64 0, .int .i64 0, .int .i64 0, .slice none 0 0] 26) := ⟨_, rfl⟩
  have B : Below w.heap.size w W0 := by subst hW0; exact below_alloc1 _ _
  have k : W0.heap[w.heap.size]? = some (.cells #[.int .i64 0, .int .i64 0, .int .i64 0, .int .i64 0, .slice none 0 0] 26 (0, 0)) := by subst hW0; exact at_new rfl
  have z : w.heap.size < W0.heap.size := by subst hW0; simp
  replace h := h.below B
  have HC := ip_any a b off cap l W0 h hcap
  generalize code l = C at *
  have hne : (C != 0) = true := by simpa using hc
  go_enter Try.func14, Try.ntmps14
  go_wp2_with (go_at_call 51; rw [← hW0]; refine HC.mono ?_; rintro e w1 ⟨rfl, hb⟩; replace B := next B hb; replace k := (hb.block _ z).trans k; clear hb; obtain ⟨c0, c1, c2, c3, c4⟩ := five k; have f1 := Bl.free k)
  refine bodyPost_ret (v := .tuple #[.agg #[.int .i64 0, .int .i64 0, .int .i64 0, .int .i64 0, .slice none 0 0], .int .i64 C]) (by simp [results, Try.results14, go_sem, c0, c1, c2, c3, c4]) rfl ⟨none, w.heap.size, 0, rfl, Wt.nil _ _ _, Nat.le_refl _, fun _ => rfl, ?_⟩
  exact bset (bset (bset (bset (bset (B) _ _ (by simp)) _ _ (by simp)) _ _ (by simp)) _ _ (by simp)) _ _ (by simp)

set_option maxHeartbeats 1000000 in
theorem udpNo (a : Option Addr) (b off cap : Nat) (l : List Int) (w : World) (h : Rd w a b off l) (hcap : l.length ≤ cap) (hc : ¬ codeU l = 0) :
    Calls Try.prog 15 #[.slice a l.length cap] w (ResU w 0 0 (codeU l) []) := by
  obtain ⟨W0, hW0⟩ : ∃ W0, W0 = w.alloc (.cells #[.int .i64 0, .int .i64 0, .slice none 0 0] 24) := ⟨_, rfl⟩
  have B : Below w.heap.size w W0 := by subst hW0; exact below_alloc1 _ _
  have k : W0.heap[w.heap.size]? = some (.cells #[.int .i64 0, .int .i64 0, .slice none 0 0] 24 (0, 0)) := by subst hW0; exact at_new rfl
  have z : w.heap.size < W0.heap.size := by subst hW0; simp
  replace h := h.below B
  have HC := udp_any a b off cap l W0 h
  generalize codeU l = C at *
  have hne : (C != 0) = true := by simpa using hc
  go_enter Try.func15, Try.ntmps15
  go_wp2_with (go_at_call 55; rw [← hW0]; refine HC.mono ?_; rintro e w1 ⟨rfl, hb⟩; replace B := next B hb; replace k := (hb.block _ z).trans k; clear hb; obtain ⟨c0, c1, c2⟩ := Ul.three k; have f1 := Bl.free k)
  refine bodyPost_ret (v := .tuple #[.agg #[.int .i64 0, .int .i64 0, .slice none 0 0], .int .i64 C]) (by simp [results, Try.results15, go_sem, c0, c1, c2]) rfl ⟨none, w.heap.size, 0, rfl, Wt.nil _ _ _, Nat.le_refl _, fun _ => rfl, ?_⟩
  exact bset (bset (bset (B) _ _ (by simp)) _ _ (by simp)) _ _ (by simp)

set_option maxHeartbeats 4000000 in
theorem udpYesA (b off cap : Nat) (l : List Int) (w : World) (h : Rd w (some ⟨b, off, none⟩) b off l) (hcap : l.length ≤ cap) (hc : codeU l = 0) (h20 : 8 ≤ l.length) (s d : Int) (Hs : Hid (s = Get.acc l 0 2)) (Hd : Hid (d = Get.acc l 2 2)) (hcz : cap = 8) :
    Calls Try.prog 15 #[.slice (some ⟨b, off, none⟩) l.length cap] w (ResU w s d 0 (l.drop 8)) := by
  subst hcz
  have hs := h.size
  obtain ⟨q, hq⟩ : ∃ q, q = l.drop 8 := ⟨_, rfl⟩
  have HDL : Hid (q.length = 0) := by unfold Hid; rw [hq, List.length_drop]; omega
  have HR : Hid (∀ W, Rd W (some ⟨b, off, none⟩) b off l → Rd W (some ⟨b, off, none⟩) b off q) := fun W _ => by have e : q = [] := (by rw [hq]; exact List.drop_of_length_le (by omega)); rw [e]; exact rd_none W _ b off
  rw [← hq]
  have hnz : (l.length : Int) - 8 = (0 : Int) := by omega
  have hnn : l.length - 8 = 0 := by omega
  have hq0 : (8 : Int) ≤ (l.length : Int) := by omega
  have hq1 : (8 : Int) ≤ (8 : Int) := by omega
  have hlc : (l.length : Int) ≤ (8 : Int) := by omega
  obtain ⟨W0, hW0⟩ : ∃ W0, W0 = w.alloc (.cells #[.int .i64 0, .int .i64 0, .slice none 0 0] 24) := ⟨_, rfl⟩
  have B : Below w.heap.size w W0 := by subst hW0; exact below_alloc1 _ _
  have k : W0.heap[w.heap.size]? = some (.cells #[.int .i64 0, .int .i64 0, .slice none 0 0] 24 (0, 0)) := by subst hW0; exact at_new rfl
  have z : w.heap.size < W0.heap.size := by subst hW0; simp
  replace h := h.below B
  have HC := udp_any _ b off 8 l W0 h
  rw [hc] at HC
  have tok0 : True := trivial
  clear hq
  go_enter Try.func15, Try.ntmps15
  go_wp2_with (go_at_call 55; rw [← hW0]; refine HC.mono ?_; rintro e w0 ⟨rfl, hb⟩; clear hW0 HC; replace B := next B hb; replace k := (hb.block _ z).trans k; replace z := Nat.lt_of_lt_of_le z hb.size; replace h := h.below hb; clear hb; have z0 := z)
  have hI : Inv w0 b off l w0 := ⟨h, Below.refl _ _⟩
  have hbl := Lw.rd_lt h
  clear h
  go_region_held3 (fun W => Inv w0 b off l W) (first | (with_reducible assumption) | (with_reducible exact hI.drew) | (with_reducible exact Inv.alloc (by assumption) _) | (with_reducible exact (Inv.alloc hI _).drew) | (repeat (first | (with_reducible assumption) | (with_reducible refine Inv.set ?_ _ _ ?_ ?_; rotate_left; (simp <;> omega); (simp <;> omega)) | (with_reducible exact Inv.alloc (by assumption) _))))
    (first
    | (go_at_call 52; refine (ends0 b off 8 l _ ?hr (by omega) s d Hs Hd).mono ?_; (case hr => with_reducible exact Inv.rd (by assumption)); rintro e w1 ⟨rfl, hb⟩; have hI1 := Inv.next (w0 := w0) (b := b) (off := off) (l := l) (by assumption) hb; (try (have kXZ := kept_new (W := w0.drew) (cs := #[.int .i64 0, .int .i64 0, .int .i64 0, .slice none 0 0]) (t := 75) hb)); (try (have kXZ := kept_new (W := w0) (cs := #[.int .i64 0, .int .i64 0, .int .i64 0, .slice none 0 0]) (t := 75) hb)); (try (have kX : w1.heap[w0.heap.size]? = some (.cells #[.int .i64 0, .int .i64 0, .int .i64 0, .slice none 0 0] 75 (0, 0)) := kXZ.1; have zX : w0.heap.size < w1.heap.size := kXZ.2; clear kXZ)); (try (have zX1 := zX)); clear hb; have z1 := hI1.kept.size)
    | (go_at_call 54; refine (clone_room ⟨b, off, none⟩ b off 0 0 q _ ?hr HDL.out).mono ?_; (case hr => with_reducible exact HR.out _ (Inv.rd (by assumption))); rintro e w4 ⟨g, c4, rfl, hwt, hc4, hg, hb⟩; have hI4 := Inv.next (w0 := w0) (b := b) (off := off) (l := l) (by assumption) hb; (try (have kXZ := kept_new (W := w1) (cs := #[.int .i64 0, .int .i64 0, .int .i64 0, .slice none 0 0]) (t := 75) hb)); (try (replace kX := (hb.block _ zX).trans kX; replace zX := Nat.lt_of_lt_of_le zX hb.size)); (try (have kX : w4.heap[w1.heap.size]? = some (.cells #[.int .i64 0, .int .i64 0, .int .i64 0, .slice none 0 0] 75 (0, 0)) := kXZ.1; have zX : w1.heap.size < w4.heap.size := kXZ.2; clear kXZ)); (first | (have hg1 : w1.heap.size ≤ g := hg) | (have hg2 : w1.heap.size < g := new_lt hg; have hg1 := Nat.le_of_lt hg2)); clear hg hb; have k4 := (hI4.kept.block _ z).trans k; have z4 := hI4.kept.size; have zw4 := Nat.lt_of_lt_of_le z z4; have B4 := Rw.next B hI4.kept; obtain ⟨y0, y1, y2⟩ := Ul.three k4; have f1 := Bl.free k4; (try (have fX := Bl.free kX; have hxx := four kX; obtain ⟨x0, x1, x2, x3⟩ := hxx))))
  all_goals go_wp2
  all_goals
    refine bodyPost_ret (v := .tuple #[.agg #[.int .i64 s, .int .i64 d, .slice (some ⟨g, 0, none⟩) 0 c4], .int .i64 0]) (by simp [results, Try.results15, go_sem, y0, y1, y2, zw4]) rfl ⟨some ⟨g, 0, none⟩, g, c4, by rw [HDL.out], ?_, by omega, by simp, ?_⟩
    · repeat (first | (with_reducible exact hwt) | (with_reducible refine Tg.wt_set ?_ ?_; rotate_left; (simp <;> omega)) | (with_reducible refine wt_new ?_))
    · repeat (first | (with_reducible exact B4) | (with_reducible refine bset ?_ _ _ ?_; rotate_left; (simp <;> omega)) | (with_reducible refine b_new ?_))

set_option maxHeartbeats 4000000 in
theorem udpYesB (b off cap : Nat) (l : List Int) (w : World) (h : Rd w (some ⟨b, off, none⟩) b off l) (hcap : l.length ≤ cap) (hc : codeU l = 0) (h20 : 8 ≤ l.length) (s d : Int) (Hs : Hid (s = Get.acc l 0 2)) (Hd : Hid (d = Get.acc l 2 2)) (hcz : ¬ cap = 8) :
    Calls Try.prog 15 #[.slice (some ⟨b, off, none⟩) l.length cap] w (ResU w s d 0 (l.drop 8)) := by
  have hs := h.size
  obtain ⟨n, hn⟩ : ∃ n, n = l.length - 8 := ⟨_, rfl⟩
  obtain ⟨q, hq⟩ : ∃ q, q = l.drop 8 := ⟨_, rfl⟩
  have HDL : Hid (q.length = n) := by unfold Hid; rw [hq, List.length_drop]; omega
  have HR : Hid (∀ W, Rd W (some ⟨b, off, none⟩) b off l → Rd W (some ⟨b, off + 8, none⟩) b (off + 8) q) := fun W hW => by rw [hq]; exact Pr.rd_drop hW 8
  rw [← hq]
  have hnz : (l.length : Int) - 8 = (n : Int) := by omega
  have hnn : l.length - 8 = n := by omega
  have hq0 : (8 : Int) ≤ (l.length : Int) := by omega
  have hq1 : (8 : Int) ≤ (cap : Int) := by omega
  have hlc : (l.length : Int) ≤ (cap : Int) := by omega
  obtain ⟨W0, hW0⟩ : ∃ W0, W0 = w.alloc (.cells #[.int .i64 0, .int .i64 0, .slice none 0 0] 24) := ⟨_, rfl⟩
  have B : Below w.heap.size w W0 := by subst hW0; exact below_alloc1 _ _
  have k : W0.heap[w.heap.size]? = some (.cells #[.int .i64 0, .int .i64 0, .slice none 0 0] 24 (0, 0)) := by subst hW0; exact at_new rfl
  have z : w.heap.size < W0.heap.size := by subst hW0; simp
  replace h := h.below B
  have HC := udp_any _ b off cap l W0 h
  rw [hc] at HC
  have tok0 : True := trivial
  clear hq
  clear hn
  go_enter Try.func15, Try.ntmps15
  go_wp2_with (go_at_call 55; rw [← hW0]; refine HC.mono ?_; rintro e w0 ⟨rfl, hb⟩; clear hW0 HC; replace B := next B hb; replace k := (hb.block _ z).trans k; replace z := Nat.lt_of_lt_of_le z hb.size; replace h := h.below hb; clear hb; have z0 := z)
  have hI : Inv w0 b off l w0 := ⟨h, Below.refl _ _⟩
  have hbl := Lw.rd_lt h
  clear h
  go_region_held3 (fun W => Inv w0 b off l W) (first | (with_reducible assumption) | (with_reducible exact hI.drew) | (with_reducible exact Inv.alloc (by assumption) _) | (with_reducible exact (Inv.alloc hI _).drew) | (repeat (first | (with_reducible assumption) | (with_reducible refine Inv.set ?_ _ _ ?_ ?_; rotate_left; (simp <;> omega); (simp <;> omega)) | (with_reducible exact Inv.alloc (by assumption) _))))
    (first
    | (go_at_call 52; refine (ends0 b off cap l _ ?hr (by omega) s d Hs Hd).mono ?_; (case hr => with_reducible exact Inv.rd (by assumption)); rintro e w1 ⟨rfl, hb⟩; have hI1 := Inv.next (w0 := w0) (b := b) (off := off) (l := l) (by assumption) hb; (try (have kXZ := kept_new (W := w0.drew) (cs := #[.int .i64 0, .int .i64 0, .int .i64 0, .slice none 0 0]) (t := 75) hb)); (try (have kXZ := kept_new (W := w0) (cs := #[.int .i64 0, .int .i64 0, .int .i64 0, .slice none 0 0]) (t := 75) hb)); (try (have kX : w1.heap[w0.heap.size]? = some (.cells #[.int .i64 0, .int .i64 0, .int .i64 0, .slice none 0 0] 75 (0, 0)) := kXZ.1; have zX : w0.heap.size < w1.heap.size := kXZ.2; clear kXZ)); (try (have zX1 := zX)); clear hb; have z1 := hI1.kept.size)
    | (go_at_call 54; refine (clone_room ⟨b, off + 8, none⟩ b (off + 8) (cap - 8) n q _ ?hr HDL.out).mono ?_; (case hr => with_reducible exact HR.out _ (Inv.rd (by assumption))); rintro e w4 ⟨g, c4, rfl, hwt, hc4, hg, hb⟩; have hI4 := Inv.next (w0 := w0) (b := b) (off := off) (l := l) (by assumption) hb; (try (have kXZ := kept_new (W := w1) (cs := #[.int .i64 0, .int .i64 0, .int .i64 0, .slice none 0 0]) (t := 75) hb)); (try (replace kX := (hb.block _ zX).trans kX; replace zX := Nat.lt_of_lt_of_le zX hb.size)); (try (have kX : w4.heap[w1.heap.size]? = some (.cells #[.int .i64 0, .int .i64 0, .int .i64 0, .slice none 0 0] 75 (0, 0)) := kXZ.1; have zX : w1.heap.size < w4.heap.size := kXZ.2; clear kXZ)); (first | (have hg1 : w1.heap.size ≤ g := hg) | (have hg2 : w1.heap.size < g := new_lt hg; have hg1 := Nat.le_of_lt hg2)); clear hg hb; have k4 := (hI4.kept.block _ z).trans k; have z4 := hI4.kept.size; have zw4 := Nat.lt_of_lt_of_le z z4; have B4 := Rw.next B hI4.kept; obtain ⟨y0, y1, y2⟩ := Ul.three k4; have f1 := Bl.free k4; (try (have fX := Bl.free kX; have hxx := four kX; obtain ⟨x0, x1, x2, x3⟩ := hxx))))
  all_goals go_wp2
  all_goals
    refine bodyPost_ret (v := .tuple #[.agg #[.int .i64 s, .int .i64 d, .slice (some ⟨g, 0, none⟩) n c4], .int .i64 0]) (by simp [results, Try.results15, go_sem, y0, y1, y2, zw4]) rfl ⟨some ⟨g, 0, none⟩, g, c4, by rw [HDL.out], ?_, by omega, by simp, ?_⟩
    · repeat (first | (with_reducible exact hwt) | (with_reducible refine Tg.wt_set ?_ ?_; rotate_left; (simp <;> omega)) | (with_reducible refine wt_new ?_))
    · repeat (first | (with_reducible exact B4) | (with_reducible refine bset ?_ _ _ ?_; rotate_left; (simp <;> omega)) | (with_reducible refine b_new ?_))

end Go.Proofs.Ythgbjbebjjeddaa.Ir
