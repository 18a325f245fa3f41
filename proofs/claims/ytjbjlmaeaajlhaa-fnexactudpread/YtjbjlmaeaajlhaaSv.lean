/-
  The specification's UdpRead: what it answers, on every slice of bytes.
-/
import Derived.Test.YtjbjlmaeaajlhaaIr
namespace Go.Proofs.Ytjbjlmaeaajlhaa.Sv
open Go Go.RowKit
open Num Rw Mk Un Put Pl App Pf Pb Ipl Hp Hd Su Cd Ir
set_option linter.unusedVariables false

set_option maxHeartbeats 1000000 in
theorem u1a (a : Option Addr) (b off cap : Nat) (l : List Int) (w : World) (h : Rd w a b off l) (hc : l.length < 8) :
    Calls Try.prog 37 #[.slice a l.length cap] w (ResU w 0 0 1 []) := by
  have hs := h.size
  have B := below_alloc1 w (.cells #[.int .i64 0, .int .i64 0, .slice none 0 0] 46)
  replace h := h.below B
  have k : (w.alloc (.cells #[.int .i64 0, .int .i64 0, .slice none 0 0] 46)).heap[w.heap.size]? = some (.cells #[.int .i64 0, .int .i64 0, .slice none 0 0] 46 (0, 0)) := at_new rfl
  obtain ⟨y0, y1, y2⟩ := Ul.three k
  have f1 := Bl.free k
  have hq : (l.length : Int) < 8 := by omega
  have tok0 : True := trivial
  go_enter Try.func37, Try.ntmps37
  go_wp2
  refine bodyPost_ret (v := .tuple #[.agg #[.int .i64 0, .int .i64 0, .slice none 0 0], .int .i64 1]) (by simp [results, Try.results37, go_sem]) rfl ⟨none, w.heap.size, 0, rfl, Wt.nil _ _ _, Nat.le_refl _, fun _ => rfl, ?_⟩
  repeat (first | (with_reducible exact B) | (with_reducible refine bset ?_ _ _ ?_; rotate_left; (simp <;> omega)))

set_option maxHeartbeats 1000000 in
theorem u1b (a : Option Addr) (b off cap : Nat) (l : List Int) (w : World) (h : Rd w a b off l) (hc : 1480 < l.length) :
    Calls Try.prog 37 #[.slice a l.length cap] w (ResU w 0 0 1 []) := by
  have hs := h.size
  have B := below_alloc1 w (.cells #[.int .i64 0, .int .i64 0, .slice none 0 0] 46)
  replace h := h.below B
  have k : (w.alloc (.cells #[.int .i64 0, .int .i64 0, .slice none 0 0] 46)).heap[w.heap.size]? = some (.cells #[.int .i64 0, .int .i64 0, .slice none 0 0] 46 (0, 0)) := at_new rfl
  obtain ⟨y0, y1, y2⟩ := Ul.three k
  have f1 := Bl.free k
  have hq : ¬ (l.length : Int) < 8 := by omega
  have hq2 : (1480 : Int) < (l.length : Int) := by omega
  have tok0 : True := trivial
  go_enter Try.func37, Try.ntmps37
  go_wp2
  refine bodyPost_ret (v := .tuple #[.agg #[.int .i64 0, .int .i64 0, .slice none 0 0], .int .i64 1]) (by simp [results, Try.results37, go_sem]) rfl ⟨none, w.heap.size, 0, rfl, Wt.nil _ _ _, Nat.le_refl _, fun _ => rfl, ?_⟩
  repeat (first | (with_reducible exact B) | (with_reducible refine bset ?_ _ _ ?_; rotate_left; (simp <;> omega)))

set_option maxHeartbeats 1000000 in
theorem u2 (b off cap : Nat) (l : List Int) (w : World) (h : Rd w (some ⟨b, off, none⟩) b off l) (h20 : 8 ≤ l.length) (h15 : l.length ≤ 1480) (h2 : ¬ Get.acc l 4 2 = l.length) :
    Calls Try.prog 37 #[.slice (some ⟨b, off, none⟩) l.length cap] w (ResU w 0 0 2 []) := by
  have hs := h.size
  have B := below_alloc1 w (.cells #[.int .i64 0, .int .i64 0, .slice none 0 0] 46)
  replace h := h.below B
  have k : (w.alloc (.cells #[.int .i64 0, .int .i64 0, .slice none 0 0] 46)).heap[w.heap.size]? = some (.cells #[.int .i64 0, .int .i64 0, .slice none 0 0] 46 (0, 0)) := at_new rfl
  obtain ⟨y0, y1, y2⟩ := Ul.three k
  have f1 := Bl.free k
  have hq : ¬ (l.length : Int) < 8 := by omega
  have hq2 : ¬ (1480 : Int) < (l.length : Int) := by omega
  obtain ⟨V, hV⟩ : ∃ V, V = Get.acc l 4 2 := ⟨_, rfl⟩
  have HV : Hid (V = Get.acc l 4 2) := hV
  rw [← hV] at h2
  have hne : (V != (l.length : Int)) = true := by simpa using h2
  clear hV h2
  have tok0 : True := trivial
  go_enter Try.func37, Try.ntmps37
  go_wp2_with (first | (go_at_call 52; clear tok0; refine (numS _ b off cap 4 2 l _ h (by decide) (by decide) (by omega) V HV.out).mono ?_; rintro e w' ⟨rfl, hw'⟩; replace hw' := hw'.symm; subst hw'; have tok1 : True := trivial))
  refine bodyPost_ret (v := .tuple #[.agg #[.int .i64 0, .int .i64 0, .slice none 0 0], .int .i64 2]) (by simp [results, Try.results37, go_sem]) rfl ⟨none, w.heap.size, 0, rfl, Wt.nil _ _ _, Nat.le_refl _, fun _ => rfl, ?_⟩
  repeat (first | (with_reducible exact B) | (with_reducible refine bset ?_ _ _ ?_; rotate_left; (simp <;> omega)))

set_option maxHeartbeats 1000000 in
theorem u3a (b off cap : Nat) (l : List Int) (w : World) (h : Rd w (some ⟨b, off, none⟩) b off l) (h20 : 8 ≤ l.length) (h15 : l.length ≤ 1480) (h2 : Get.acc l 4 2 = l.length) (h3 : ¬ l.getD 6 0 = 0) :
    Calls Try.prog 37 #[.slice (some ⟨b, off, none⟩) l.length cap] w (ResU w 0 0 3 []) := by
  have hs := h.size
  have B := below_alloc1 w (.cells #[.int .i64 0, .int .i64 0, .slice none 0 0] 46)
  replace h := h.below B
  have k : (w.alloc (.cells #[.int .i64 0, .int .i64 0, .slice none 0 0] 46)).heap[w.heap.size]? = some (.cells #[.int .i64 0, .int .i64 0, .slice none 0 0] 46 (0, 0)) := at_new rfl
  obtain ⟨y0, y1, y2⟩ := Ul.three k
  have f1 := Bl.free k
  have hq : ¬ (l.length : Int) < 8 := by omega
  have hq2 : ¬ (1480 : Int) < (l.length : Int) := by omega
  have HL : Hid ((l.length : Int) = Get.acc l 4 2) := h2.symm
  clear h2
  have hz6 : (6 : Int) < (l.length : Int) := by omega
  have hz7 : (7 : Int) < (l.length : Int) := by omega
  have g6 := h.cell 6 (by omega)
  have g7 := h.cell 7 (by omega)
  generalize l.getD 6 0 = x6 at *
  have hne : (x6 != 0) = true := by simpa using h3
  have tok0 : True := trivial
  go_enter Try.func37, Try.ntmps37
  go_wp2_with (first | (go_at_call 52; clear tok0; refine (numS _ b off cap 4 2 l _ h (by decide) (by decide) (by omega) (l.length : Int) HL.out).mono ?_; rintro e w' ⟨rfl, hw'⟩; replace hw' := hw'.symm; subst hw'; have tok1 : True := trivial))
  refine bodyPost_ret (v := .tuple #[.agg #[.int .i64 0, .int .i64 0, .slice none 0 0], .int .i64 3]) (by simp [results, Try.results37, go_sem]) rfl ⟨none, w.heap.size, 0, rfl, Wt.nil _ _ _, Nat.le_refl _, fun _ => rfl, ?_⟩
  repeat (first | (with_reducible exact B) | (with_reducible refine bset ?_ _ _ ?_; rotate_left; (simp <;> omega)))

set_option maxHeartbeats 1000000 in
theorem u3b (b off cap : Nat) (l : List Int) (w : World) (h : Rd w (some ⟨b, off, none⟩) b off l) (h20 : 8 ≤ l.length) (h15 : l.length ≤ 1480) (h2 : Get.acc l 4 2 = l.length) (h3 : l.getD 6 0 = 0) (h4 : ¬ l.getD 7 0 = 0) :
    Calls Try.prog 37 #[.slice (some ⟨b, off, none⟩) l.length cap] w (ResU w 0 0 3 []) := by
  have hs := h.size
  have B := below_alloc1 w (.cells #[.int .i64 0, .int .i64 0, .slice none 0 0] 46)
  replace h := h.below B
  have k : (w.alloc (.cells #[.int .i64 0, .int .i64 0, .slice none 0 0] 46)).heap[w.heap.size]? = some (.cells #[.int .i64 0, .int .i64 0, .slice none 0 0] 46 (0, 0)) := at_new rfl
  obtain ⟨y0, y1, y2⟩ := Ul.three k
  have f1 := Bl.free k
  have hq : ¬ (l.length : Int) < 8 := by omega
  have hq2 : ¬ (1480 : Int) < (l.length : Int) := by omega
  have HL : Hid ((l.length : Int) = Get.acc l 4 2) := h2.symm
  clear h2
  have hz6 : (6 : Int) < (l.length : Int) := by omega
  have hz7 : (7 : Int) < (l.length : Int) := by omega
  have g6 := h.cell 6 (by omega)
  have g7 := h.cell 7 (by omega)
  rw [h3] at g6
  generalize l.getD 7 0 = x7 at *
  have hne : (x7 != 0) = true := by simpa using h4
  have tok0 : True := trivial
  go_enter Try.func37, Try.ntmps37
  go_wp2_with (first | (go_at_call 52; clear tok0; refine (numS _ b off cap 4 2 l _ h (by decide) (by decide) (by omega) (l.length : Int) HL.out).mono ?_; rintro e w' ⟨rfl, hw'⟩; replace hw' := hw'.symm; subst hw'; have tok1 : True := trivial))
  refine bodyPost_ret (v := .tuple #[.agg #[.int .i64 0, .int .i64 0, .slice none 0 0], .int .i64 3]) (by simp [results, Try.results37, go_sem]) rfl ⟨none, w.heap.size, 0, rfl, Wt.nil _ _ _, Nat.le_refl _, fun _ => rfl, ?_⟩
  repeat (first | (with_reducible exact B) | (with_reducible refine bset ?_ _ _ ?_; rotate_left; (simp <;> omega)))

set_option maxHeartbeats 1000000 in
theorem u0A (b off cap : Nat) (l : List Int) (w : World) (h : Rd w (some ⟨b, off, none⟩) b off l) (h20 : 8 ≤ l.length) (h15 : l.length ≤ 1480) (hcap : l.length ≤ cap) (h2 : Get.acc l 4 2 = l.length) (h3 : l.getD 6 0 = 0) (h4 : l.getD 7 0 = 0) (s d : Int) (Hs : Hid (s = Get.acc l 0 2)) (Hd : Hid (d = Get.acc l 2 2)) (hcz : cap = 8) :
    Calls Try.prog 37 #[.slice (some ⟨b, off, none⟩) l.length cap] w (ResU w s d 0 (l.drop 8)) := by
  subst hcz
  have hs := h.size
  have B := below_alloc1 w (.cells #[.int .i64 0, .int .i64 0, .slice none 0 0] 46)
  replace h := h.below B
  have k : (w.alloc (.cells #[.int .i64 0, .int .i64 0, .slice none 0 0] 46)).heap[w.heap.size]? = some (.cells #[.int .i64 0, .int .i64 0, .slice none 0 0] 46 (0, 0)) := at_new rfl
  obtain ⟨y0, y1, y2⟩ := Ul.three k
  have f1 := Bl.free k
  have hq : ¬ (l.length : Int) < 8 := by omega
  have hq2 : ¬ (1480 : Int) < (l.length : Int) := by omega
  have HL : Hid ((l.length : Int) = Get.acc l 4 2) := h2.symm
  clear h2
  have hz6 : (6 : Int) < (l.length : Int) := by omega
  have hz7 : (7 : Int) < (l.length : Int) := by omega
  have g6 := h.cell 6 (by omega)
  have g7 := h.cell 7 (by omega)
  rw [h3] at g6
  rw [h4] at g7
  obtain ⟨q, hq⟩ : ∃ q, q = l.drop 8 := ⟨_, rfl⟩
  have HDL : Hid (q.length = 0) := by unfold Hid; rw [hq, List.length_drop]; omega
  have hrq : Rd ((w.alloc (.cells #[.int .i64 0, .int .i64 0, .slice none 0 0] 46)).alloc (.cells #[] 5)) (some ⟨b, off, none⟩) b off q := by have e : q = [] := (by rw [hq]; exact List.drop_of_length_le (by omega)); rw [e]; exact rd_none _ _ b off
  rw [← hq]
  have hnz : (l.length : Int) - 8 = (0 : Int) := by omega
  have hnn : l.length - 8 = 0 := by omega
  have hq0 : (8 : Int) ≤ (l.length : Int) := by omega
  have hq1 : (8 : Int) ≤ (8 : Int) := by omega
  have hlc : (l.length : Int) ≤ (8 : Int) := by omega
  have O0 := own_empty (w.alloc (.cells #[.int .i64 0, .int .i64 0, .slice none 0 0] 46))
  have e1 : (w.alloc (.cells #[.int .i64 0, .int .i64 0, .slice none 0 0] 46)).heap.size = w.heap.size + 1 := by simp
  rw [e1] at O0
  have BE := below_alloc1 (w.alloc (.cells #[.int .i64 0, .int .i64 0, .slice none 0 0] 46)) (.cells #[] 5)
  have qs := hrq.size
  have qy := hrq.byt
  have HH := hide h
  clear hq
  have tok0 : True := trivial
  go_enter Try.func37, Try.ntmps37
  go_wp2_with (first | (go_at_call 52; clear tokB; refine (numS _ b off 8 2 2 l _ (hA.out _) (by decide) (by decide) (by omega) d Hd.out).mono ?_; rintro e w' ⟨rfl, hw'⟩; replace hw' := hw'.symm; subst hw'; have tokC : True := trivial) | (go_at_call 52; clear tokA; refine (numS _ b off 8 0 2 l _ (hA.out _) (by decide) (by decide) (by omega) s Hs.out).mono ?_; rintro e w' ⟨rfl, hw'⟩; replace hw' := hw'.symm; subst hw'; have tokB : True := trivial) | (at_builtin; refine wpList_app rfl (.tmp 37) (.tmp 39) rfl _ _ [] q rfl O0 (some ⟨b, off, none⟩) b off 0 (by rw [HDL.out]; rfl) hrq (by simp; omega) (by simp) ?_; intro v5 w5 hown hgrow; have hb5 := below_own O0 BE (by simp) hgrow; obtain ⟨g5, c5, hv5, hg5, hw5⟩ := hasI_form hown (by simpa using qs) (by simpa using qy); simp only [List.nil_append] at hv5 hw5; rw [HDL.out] at hv5; subst hv5; clear hown hgrow hrq; have zw : w.heap.size < w5.heap.size := Nat.lt_of_lt_of_le (by simp) hb5.size; have k5 := (hb5.block _ (by simp)).trans k; have B5 := next B hb5; clear y0 y1 y2 f1; obtain ⟨y0, y1, y2⟩ := Ul.three k5; have f1 := Bl.free k5; have hA := hide (fun o => (h.below hb5).below (below_alloc1 w5 o)); clear hb5; have tokA : True := trivial) | (go_at_call 52; clear tok0; refine (numS _ b off 8 4 2 l _ h (by decide) (by decide) (by omega) (l.length : Int) HL.out).mono ?_; rintro e w' ⟨rfl, hw'⟩; replace hw' := hw'.symm; subst hw'; have tok1 : True := trivial))
  refine bodyPost_ret (v := .tuple #[.agg #[.int .i64 s, .int .i64 d, .slice (some ⟨g5, 0, none⟩) 0 c5], .int .i64 0]) (by simp [results, Try.results37, go_sem, y0, y1, y2, zw]) rfl ⟨some ⟨g5, 0, none⟩, g5, c5, by rw [HDL.out], ?_, by omega, by simp, ?_⟩
  · repeat (first | (with_reducible exact hw5) | (with_reducible refine Tg.wt_set ?_ ?_; rotate_left; (simp <;> omega)) | (with_reducible refine wt_new ?_))
  · repeat (first | (with_reducible exact B5) | (with_reducible refine bset ?_ _ _ ?_; rotate_left; (simp <;> omega)) | (with_reducible refine b_new ?_))

set_option maxHeartbeats 1000000 in
theorem u0B (b off cap : Nat) (l : List Int) (w : World) (h : Rd w (some ⟨b, off, none⟩) b off l) (h20 : 8 ≤ l.length) (h15 : l.length ≤ 1480) (hcap : l.length ≤ cap) (h2 : Get.acc l 4 2 = l.length) (h3 : l.getD 6 0 = 0) (h4 : l.getD 7 0 = 0) (s d : Int) (Hs : Hid (s = Get.acc l 0 2)) (Hd : Hid (d = Get.acc l 2 2)) (hcz : ¬ cap = 8) :
    Calls Try.prog 37 #[.slice (some ⟨b, off, none⟩) l.length cap] w (ResU w s d 0 (l.drop 8)) := by
  have hs := h.size
  have B := below_alloc1 w (.cells #[.int .i64 0, .int .i64 0, .slice none 0 0] 46)
  replace h := h.below B
  have k : (w.alloc (.cells #[.int .i64 0, .int .i64 0, .slice none 0 0] 46)).heap[w.heap.size]? = some (.cells #[.int .i64 0, .int .i64 0, .slice none 0 0] 46 (0, 0)) := at_new rfl
  obtain ⟨y0, y1, y2⟩ := Ul.three k
  have f1 := Bl.free k
  have hq : ¬ (l.length : Int) < 8 := by omega
  have hq2 : ¬ (1480 : Int) < (l.length : Int) := by omega
  have HL : Hid ((l.length : Int) = Get.acc l 4 2) := h2.symm
  clear h2
  have hz6 : (6 : Int) < (l.length : Int) := by omega
  have hz7 : (7 : Int) < (l.length : Int) := by omega
  have g6 := h.cell 6 (by omega)
  have g7 := h.cell 7 (by omega)
  rw [h3] at g6
  rw [h4] at g7
  obtain ⟨n, hn⟩ : ∃ n, n = l.length - 8 := ⟨_, rfl⟩
  obtain ⟨q, hq⟩ : ∃ q, q = l.drop 8 := ⟨_, rfl⟩
  have HDL : Hid (q.length = n) := by unfold Hid; rw [hq, List.length_drop]; omega
  have hrq : Rd ((w.alloc (.cells #[.int .i64 0, .int .i64 0, .slice none 0 0] 46)).alloc (.cells #[] 5)) (some ⟨b, off + 8, none⟩) b (off + 8) q := by rw [hq]; exact Pr.rd_drop (h.below (below_alloc1 _ _)) 8
  rw [← hq]
  have hnz : (l.length : Int) - 8 = (n : Int) := by omega
  have hnn : l.length - 8 = n := by omega
  have hq0 : (8 : Int) ≤ (l.length : Int) := by omega
  have hq1 : (8 : Int) ≤ (cap : Int) := by omega
  have hlc : (l.length : Int) ≤ (cap : Int) := by omega
  have O0 := own_empty (w.alloc (.cells #[.int .i64 0, .int .i64 0, .slice none 0 0] 46))
  have e1 : (w.alloc (.cells #[.int .i64 0, .int .i64 0, .slice none 0 0] 46)).heap.size = w.heap.size + 1 := by simp
  rw [e1] at O0
  have BE := below_alloc1 (w.alloc (.cells #[.int .i64 0, .int .i64 0, .slice none 0 0] 46)) (.cells #[] 5)
  have qs := hrq.size
  have qy := hrq.byt
  have HH := hide h
  clear hq hn
  have tok0 : True := trivial
  go_enter Try.func37, Try.ntmps37
  go_wp2_with (first | (go_at_call 52; clear tokB; refine (numS _ b off cap 2 2 l _ (hA.out _) (by decide) (by decide) (by omega) d Hd.out).mono ?_; rintro e w' ⟨rfl, hw'⟩; replace hw' := hw'.symm; subst hw'; have tokC : True := trivial) | (go_at_call 52; clear tokA; refine (numS _ b off cap 0 2 l _ (hA.out _) (by decide) (by decide) (by omega) s Hs.out).mono ?_; rintro e w' ⟨rfl, hw'⟩; replace hw' := hw'.symm; subst hw'; have tokB : True := trivial) | (at_builtin; refine wpList_app rfl (.tmp 37) (.tmp 39) rfl _ _ [] q rfl O0 (some ⟨b, off + 8, none⟩) b (off + 8) (cap - 8) (by rw [HDL.out]; rfl) hrq (by simp; omega) (by simp) ?_; intro v5 w5 hown hgrow; have hb5 := below_own O0 BE (by simp) hgrow; obtain ⟨g5, c5, hv5, hg5, hw5⟩ := hasI_form hown (by simpa using qs) (by simpa using qy); simp only [List.nil_append] at hv5 hw5; rw [HDL.out] at hv5; subst hv5; clear hown hgrow hrq; have zw : w.heap.size < w5.heap.size := Nat.lt_of_lt_of_le (by simp) hb5.size; have k5 := (hb5.block _ (by simp)).trans k; have B5 := next B hb5; clear y0 y1 y2 f1; obtain ⟨y0, y1, y2⟩ := Ul.three k5; have f1 := Bl.free k5; have hA := hide (fun o => (h.below hb5).below (below_alloc1 w5 o)); clear hb5; have tokA : True := trivial) | (go_at_call 52; clear tok0; refine (numS _ b off cap 4 2 l _ h (by decide) (by decide) (by omega) (l.length : Int) HL.out).mono ?_; rintro e w' ⟨rfl, hw'⟩; replace hw' := hw'.symm; subst hw'; have tok1 : True := trivial))
  refine bodyPost_ret (v := .tuple #[.agg #[.int .i64 s, .int .i64 d, .slice (some ⟨g5, 0, none⟩) n c5], .int .i64 0]) (by simp [results, Try.results37, go_sem, y0, y1, y2, zw]) rfl ⟨some ⟨g5, 0, none⟩, g5, c5, by rw [HDL.out], ?_, by omega, by simp, ?_⟩
  · repeat (first | (with_reducible exact hw5) | (with_reducible refine Tg.wt_set ?_ ?_; rotate_left; (simp <;> omega)) | (with_reducible refine wt_new ?_))
  · repeat (first | (with_reducible exact B5) | (with_reducible refine bset ?_ _ _ ?_; rotate_left; (simp <;> omega)) | (with_reducible refine b_new ?_))

theorem two_bytes {l : List Int} (hy : Byt l) : Get.acc l 6 2 = 0 ↔ l.getD 6 0 = 0 ∧ l.getD 7 0 = 0 := by
  have b6 := hy.at 6
  have b7 := hy.at 7
  simp only [Get.acc, Int.zero_mul, Int.zero_add, Nat.reduceAdd]
  omega

/-- Both answer alike: with this code. -/
def Alike (l : List Int) (S D C : Int) (L : List Int) : Prop :=
  (∀ a b off cap w, Rd w a b off l → l.length ≤ cap → Calls Try.prog 38 #[.slice a l.length cap] w (ResU w S D C L)) ∧
  (∀ a b off cap w, Rd w a b off l → l.length ≤ cap → Calls Try.prog 37 #[.slice a l.length cap] w (ResU w S D C L))

theorem alike {l : List Int} (hy : Byt l) (hc : ¬ codeU l = 0) : Alike l 0 0 (codeU l) [] := by
  refine ⟨fun a b off cap w h hcap => udpNo a b off cap l w h hcap hc, fun a b off cap w h hcap => ?_⟩
  unfold codeU at hc ⊢
  by_cases c1 : l.length < 8 ∨ 1480 < l.length
  · rw [if_pos c1]
    rcases c1 with c | c
    · exact u1a a b off cap l w h c
    · exact u1b a b off cap l w h c
  obtain rfl := some_of h (by omega)
  rw [if_neg c1] at hc ⊢
  by_cases c5 : Get.acc l 4 2 = l.length
  · rw [if_neg (by simpa using c5)] at hc ⊢
    by_cases c6 : Get.acc l 6 2 = 0
    · rw [if_neg (by simpa using c6)] at hc
      exact absurd rfl hc
    · rw [if_pos c6]
      by_cases c7 : l.getD 6 0 = 0
      · exact u3b b off cap l w h (by omega) (by omega) c5 c7 fun c8 => c6 ((two_bytes hy).2 ⟨c7, c8⟩)
      · exact u3a b off cap l w h (by omega) (by omega) c5 c7
  · rw [if_pos c5]
    exact u2 b off cap l w h (by omega) (by omega) c5
theorem code_parts {l : List Int} (hc : codeU l = 0) : 8 ≤ l.length ∧ l.length ≤ 1480 ∧ Get.acc l 4 2 = l.length ∧ Get.acc l 6 2 = 0 := by
  unfold codeU at hc
  split at hc
  · simp at hc
  · split at hc
    · simp at hc
    · split at hc
      · simp at hc
      · rename_i c1 c2 c3
        exact ⟨by omega, by omega, by simpa using c2, by simpa using c3⟩
theorem alike0 {l : List Int} (hy : Byt l) (hc : codeU l = 0) : Alike l (Get.acc l 0 2) (Get.acc l 2 2) 0 (l.drop 8) := by
  obtain ⟨h8, h14, h2, h3⟩ := code_parts hc
  obtain ⟨c7, c8⟩ := (two_bytes hy).1 h3
  refine ⟨fun a b off cap w h hcap => ?_, fun a b off cap w h hcap => ?_⟩
  · obtain rfl := some_of h (by omega)
    by_cases hcz : cap = 8
    · exact udpYesA b off cap l w h hcap hc h8 _ _ rfl rfl hcz
    · exact udpYesB b off cap l w h hcap hc h8 _ _ rfl rfl hcz
  · obtain rfl := some_of h (by omega)
    by_cases hcz : cap = 8
    · exact u0A b off cap l w h h8 h14 hcap h2 c7 c8 _ _ rfl rfl hcz
    · exact u0B b off cap l w h h8 h14 hcap h2 c7 c8 _ _ rfl rfl hcz
theorem read {l : List Int} (hy : Byt l) : ∃ S D C L, Alike l S D C L := by
  by_cases hc : codeU l = 0
  · exact ⟨_, _, _, _, alike0 hy hc⟩
  · exact ⟨_, _, _, _, alike hy hc⟩

end Go.Proofs.Ytjbjlmaeaajlhaa.Sv
