/-
  The contract of the specification's PacketRead.
-/
import Derived.Test.YtdhidobaghgikaaPc
namespace Go.Proofs.Ytdhidobaghgikaa.Pr
open Go Go.RowKit
open Num Rw Mk Un Put Pl App Pf

theorem numS (a : Option Addr) (b off cap : Nat) (p n : Nat) (l : List Int) (w : World) (h : Rd w a b off l) (h1 : 1 ≤ n) (h6 : n ≤ 6) (hp : p + n ≤ l.length) (V : Int) (hV : V = Get.acc l p n) :
    Calls Try.prog 42 #[.slice a l.length cap, .int .i64 p, .int .i64 n] w fun e w' => e = .returned (.tuple #[.int .i64 V, .bool true]) ∧ w' = w := by
  subst hV
  exact Get.specGet_yes a b off cap l p n w h h1 h6 hp
theorem sumS (a : Option Addr) (b off cap n : Nat) (l : List Int) (w : World) (h : Rd w a b off l) (hn : l.length = n + 4) (S : Int) (hS : S = sumAt l) :
    Calls Try.prog 42 #[.slice a l.length cap, .int .i64 n, .int .i64 4] w fun e w' => e = .returned (.tuple #[.int .i64 S, .bool true]) ∧ w' = w := by
  subst hS
  have e : n = l.length - 4 := by omega
  subst e
  exact Get.specGet_yes a b off cap l (l.length - 4) 4 w h (by decide) (by decide) (by omega)
theorem crcFrontS (b off cap n : Nat) (l : List Int) (w : World) (h : Rd w (some ⟨b, off, none⟩) b off l) (hn : l.length = n + 4) (C : Int) (hC : C = Pb.crcI (front l)) :
    Calls Try.prog 41 #[.slice (some ⟨b, off, none⟩) n cap] w fun e w' => e = .returned (.int .i64 C) ∧ w' = w := by
  have e := front_len hn
  have := Crc.specCrc_any (some ⟨b, off, none⟩) b off cap (front l) w (rd_take h _)
  rw [e] at this
  subst hC
  unfold Pb.crcI
  rw [e]
  exact this
theorem set_four {w : World} {g : Nat} {v0 v1 v2 v3 v4 u : Value} {t : TypeId} (h : w.heap[g]? = some (.cells #[v0, v1, v2, v3, v4] t (0, 0))) : (w.setCell ⟨g, 4, none⟩ u).heap[g]? = some (.cells #[v0, v1, v2, v3, u] t (0, 0)) := by
  rw [setCell_eq_setRow w g 4 _ t _ u h, setRow_heap w g _ _ t _ h]
  rfl
theorem set_far {w : World} {g : Nat} {ad : Addr} {u : Value} (hne : ¬ ad.block = g) : (w.setCell ad u).heap[g]? = w.heap[g]? := Below.heap_setCell w ad u g (fun e => hne e.symm)

set_option maxHeartbeats 1000000 in
theorem sp14_1 (a : Option Addr) (b off cap : Nat) (l : List Int) (w : World) (h : Rd w a b off l) (hK : ¬ kind l = 33024) (hc : l.length < 18) :
    Calls Try.prog 23 #[.slice a l.length cap] w (ResC w 0 0 0 0 1 []) := by
  have B := next (below_alloc1 w (.cells #[.int .i64 0, .int .i64 0, .int .i64 0, .int .i64 0, .slice none 0 0] 24)) (below_alloc1 _ (.cells #[.int .i64 0, .int .i64 0, .int .i64 0, .int .i64 0, .slice none 0 0] 24))
  have hs := h.size
  replace h := h.below B
  have KD := kindSpec_any _ b off cap l _ h
  generalize kind l = K at *
  have hk2 : (K == 33024) = false := by simpa using hK
  have hq : (l.length : Int) < 18 := by omega
  have tok0 : True := trivial
  go_enter Try.func23, Try.ntmps23
  go_wp2_with (go_at_call 42; clear tok0; refine KD.mono ?_; rintro e w' ⟨q, rfl, hw'⟩; replace hw' := hw'.symm; subst hw'; clear KD; have tok1 : True := trivial)
  refine bodyPost_ret (v := .tuple #[.agg #[.int .i64 0, .int .i64 0, .int .i64 0, .int .i64 0, .slice none 0 0], .int .i64 1]) (by simp [results, Try.results23, go_sem]) rfl ⟨none, w.heap.size, 0, rfl, Wt.nil _ _ _, Nat.le_refl _, fun _ => rfl, ?_⟩
  exact B

set_option maxHeartbeats 1000000 in
theorem sp14_2 (a : Option Addr) (b off cap : Nat) (l : List Int) (w : World) (h : Rd w a b off l) (hK : ¬ kind l = 33024) (hc : 1518 < l.length) :
    Calls Try.prog 23 #[.slice a l.length cap] w (ResC w 0 0 0 0 2 []) := by
  have B := next (below_alloc1 w (.cells #[.int .i64 0, .int .i64 0, .int .i64 0, .int .i64 0, .slice none 0 0] 24)) (below_alloc1 _ (.cells #[.int .i64 0, .int .i64 0, .int .i64 0, .int .i64 0, .slice none 0 0] 24))
  have hs := h.size
  replace h := h.below B
  have KD := kindSpec_any _ b off cap l _ h
  generalize kind l = K at *
  have hk2 : (K == 33024) = false := by simpa using hK
  have hq : ¬ ((l.length : Int) < 18) := by omega
  have hq2 : (1518 : Int) < (l.length : Int) := by omega
  have tok0 : True := trivial
  go_enter Try.func23, Try.ntmps23
  go_wp2_with (go_at_call 42; clear tok0; refine KD.mono ?_; rintro e w' ⟨q, rfl, hw'⟩; replace hw' := hw'.symm; subst hw'; clear KD; have tok1 : True := trivial)
  refine bodyPost_ret (v := .tuple #[.agg #[.int .i64 0, .int .i64 0, .int .i64 0, .int .i64 0, .slice none 0 0], .int .i64 2]) (by simp [results, Try.results23, go_sem]) rfl ⟨none, w.heap.size, 0, rfl, Wt.nil _ _ _, Nat.le_refl _, fun _ => rfl, ?_⟩
  exact B

set_option maxHeartbeats 1000000 in
theorem sp14_3 (b off cap : Nat) (l : List Int) (w : World) (h : Rd w (some ⟨b, off, none⟩) b off l) (hK : ¬ kind l = 33024) (n : Nat) (hn : l.length = n + 4) (h1 : 14 ≤ n) (h2 : n ≤ 1514) (hcap : l.length ≤ cap) (hsum : ¬ sumAt l = Pb.crcI (front l)) :
    Calls Try.prog 23 #[.slice (some ⟨b, off, none⟩) l.length cap] w (ResC w 0 0 0 0 3 []) := by
  have B := next (below_alloc1 w (.cells #[.int .i64 0, .int .i64 0, .int .i64 0, .int .i64 0, .slice none 0 0] 24)) (below_alloc1 _ (.cells #[.int .i64 0, .int .i64 0, .int .i64 0, .int .i64 0, .slice none 0 0] 24))
  have hs := h.size
  replace h := h.below B
  have KD := kindSpec_any _ b off cap l _ h
  generalize kind l = K at *
  have hk2 : (K == 33024) = false := by simpa using hK
  obtain ⟨S, hS⟩ : ∃ S, S = sumAt l := ⟨_, rfl⟩
  obtain ⟨C, hC⟩ : ∃ C, C = Pb.crcI (front l) := ⟨_, rfl⟩
  have HS := sumS _ b off cap n l _ h hn S hS
  have HC := crcFrontS b off cap n l _ h hn C hC
  have hmn : (l.length : Int) - 4 = (n : Int) := by omega
  have hq : ¬ ((l.length : Int) < 18) := by omega
  have hq2 : ¬ ((1518 : Int) < (l.length : Int)) := by omega
  have hnc : (n : Int) ≤ (cap : Int) := by omega
  have hn0 : (0 : Int) ≤ (n : Int) := by omega
  have hnH : (14 : Int) ≤ (n : Int) := by omega
  have hne : (S != C) = true := by rw [hS, hC]; simpa using hsum
  clear hS hC hsum
  have HN : Hid (l.length = n + 4) := hn
  clear hn
  have tok0 : True := trivial
  go_enter Try.func23, Try.ntmps23
  go_wp2_with (first | (go_at_call 42; clear tok0; refine KD.mono ?_; rintro e w' ⟨q, rfl, hw'⟩; replace hw' := hw'.symm; subst hw'; clear KD; have tok1 : True := trivial) | (go_at_call 42; clear tok1; refine HS.mono ?_; rintro e w' ⟨rfl, hw'⟩; replace hw' := hw'.symm; subst hw'; clear HS; have tok2 : True := trivial) | (go_at_call 41; refine HC.mono ?_; rintro e w' ⟨rfl, hw'⟩; replace hw' := hw'.symm; subst hw'; clear HC))
  refine bodyPost_ret (v := .tuple #[.agg #[.int .i64 0, .int .i64 0, .int .i64 0, .int .i64 0, .slice none 0 0], .int .i64 3]) (by simp [results, Try.results23, go_sem]) rfl ⟨none, w.heap.size, 0, rfl, Wt.nil _ _ _, Nat.le_refl _, fun _ => rfl, ?_⟩
  exact B

set_option maxHeartbeats 1000000 in
theorem sp14_5 (b off cap : Nat) (l : List Int) (w : World) (h : Rd w (some ⟨b, off, none⟩) b off l) (hH : hd l = 14) (hK : ¬ kind l = 33024) (n : Nat) (hn : l.length = n + 4) (h1 : 14 ≤ n) (h2 : n ≤ 1514) (hcap : l.length ≤ cap) (hsum : sumAt l = Pb.crcI (front l)) (hok : Pk.okB (Get.acc l 0 6) (Get.acc l 6 6) (-1) (Get.acc l 12 2) (n - 14) = false) :
    Calls Try.prog 23 #[.slice (some ⟨b, off, none⟩) l.length cap] w (ResC w 0 0 0 0 5 []) := by
  have B := next (below_alloc1 w (.cells #[.int .i64 0, .int .i64 0, .int .i64 0, .int .i64 0, .slice none 0 0] 24)) (below_alloc1 _ (.cells #[.int .i64 0, .int .i64 0, .int .i64 0, .int .i64 0, .slice none 0 0] 24))
  have hs := h.size
  replace h := h.below B
  have KD := kindSpec_any _ b off cap l _ h
  generalize kind l = K at *
  have hk2 : (K == 33024) = false := by simpa using hK
  obtain ⟨S, hS⟩ : ∃ S, S = sumAt l := ⟨_, rfl⟩
  obtain ⟨C, hC⟩ : ∃ C, C = Pb.crcI (front l) := ⟨_, rfl⟩
  have HS := sumS _ b off cap n l _ h hn S hS
  have HC := crcFrontS b off cap n l _ h hn C hC
  have hmn : (l.length : Int) - 4 = (n : Int) := by omega
  have hq : ¬ ((l.length : Int) < 18) := by omega
  have hq2 : ¬ ((1518 : Int) < (l.length : Int)) := by omega
  have hnc : (n : Int) ≤ (cap : Int) := by omega
  have hn0 : (0 : Int) ≤ (n : Int) := by omega
  have hnH : (14 : Int) ≤ (n : Int) := by omega
  have hsc : S = C := by rw [hS, hC]; exact hsum
  have HB : Hid (body l = (l.drop 14).take (n - 14)) := by unfold Hid body; rw [hH, hn]; rfl
  obtain ⟨dV, hdV⟩ : ∃ V, V = Get.acc l 0 6 := ⟨_, rfl⟩
  obtain ⟨sV, hsV⟩ : ∃ V, V = Get.acc l 6 6 := ⟨_, rfl⟩
  obtain ⟨yV, hyV⟩ : ∃ V, V = Get.acc l 12 2 := ⟨_, rfl⟩
  rw [← hdV, ← hsV, ← hyV] at hok
  have Hd : Hid (dV = Get.acc l 0 6) := hdV
  have Hs : Hid (sV = Get.acc l 6 6) := hsV
  have Hy : Hid (yV = Get.acc l 12 2) := hyV
  clear hdV hsV hyV
  subst hsc
  have HA : Hid (∀ o, Rd (((w.alloc (.cells #[.int .i64 0, .int .i64 0, .int .i64 0, .int .i64 0, .slice none 0 0] 24)).alloc (.cells #[.int .i64 0, .int .i64 0, .int .i64 0, .int .i64 0, .slice none 0 0] 24)).alloc o) (some ⟨b, off, none⟩) b off l) := fun o => h.below (below_alloc1 _ _)
  clear hS hC hsum hH
  have HN : Hid (l.length = n + 4) := hn
  clear hn
  have tok0 : True := trivial
  have hbl : (body l).length = n - 14 := by rw [HB.out, List.length_take, List.length_drop, HN.out]; omega
  have HBL : Hid ((body l).length = n - 14) := hbl
  have BE := below_alloc1 (((w.alloc (.cells #[.int .i64 0, .int .i64 0, .int .i64 0, .int .i64 0, .slice none 0 0] 24)).alloc (.cells #[.int .i64 0, .int .i64 0, .int .i64 0, .int .i64 0, .slice none 0 0] 24)).alloc (.cells #[.int .i64 dV, .int .i64 sV, .int .i64 (-1), .int .i64 yV, .slice none 0 0] 24)) (.cells #[] 5)
  have z3 : (((w.alloc (.cells #[.int .i64 0, .int .i64 0, .int .i64 0, .int .i64 0, .slice none 0 0] 24)).alloc (.cells #[.int .i64 0, .int .i64 0, .int .i64 0, .int .i64 0, .slice none 0 0] 24)).alloc (.cells #[.int .i64 dV, .int .i64 sV, .int .i64 (-1), .int .i64 yV, .slice none 0 0] 24)).heap.size = w.heap.size + 1 + 1 + 1 := by simp
  have O0 := own_empty (((w.alloc (.cells #[.int .i64 0, .int .i64 0, .int .i64 0, .int .i64 0, .slice none 0 0] 24)).alloc (.cells #[.int .i64 0, .int .i64 0, .int .i64 0, .int .i64 0, .slice none 0 0] 24)).alloc (.cells #[.int .i64 dV, .int .i64 sV, .int .i64 (-1), .int .i64 yV, .slice none 0 0] 24))
  rw [z3] at O0
  have B3 := next B (below_alloc1 ((w.alloc (.cells #[.int .i64 0, .int .i64 0, .int .i64 0, .int .i64 0, .slice none 0 0] 24)).alloc (.cells #[.int .i64 0, .int .i64 0, .int .i64 0, .int .i64 0, .slice none 0 0] 24)) (.cells #[.int .i64 dV, .int .i64 sV, .int .i64 (-1), .int .i64 yV, .slice none 0 0] 24))
  have hrB : Rd ((((w.alloc (.cells #[.int .i64 0, .int .i64 0, .int .i64 0, .int .i64 0, .slice none 0 0] 24)).alloc (.cells #[.int .i64 0, .int .i64 0, .int .i64 0, .int .i64 0, .slice none 0 0] 24)).alloc (.cells #[.int .i64 dV, .int .i64 sV, .int .i64 (-1), .int .i64 yV, .slice none 0 0] 24)).alloc (.cells #[] 5)) (some ⟨b, off + 14, none⟩) b (off + 14) (body l) := by rw [HB.out]; exact rd_take (rd_drop ((HA.out _).below BE) _) _
  have HOO : Hid (HasI ((((w.alloc (.cells #[.int .i64 0, .int .i64 0, .int .i64 0, .int .i64 0, .slice none 0 0] 24)).alloc (.cells #[.int .i64 0, .int .i64 0, .int .i64 0, .int .i64 0, .slice none 0 0] 24)).alloc (.cells #[.int .i64 dV, .int .i64 sV, .int .i64 (-1), .int .i64 yV, .slice none 0 0] 24)).alloc (.cells #[] 5)) (w.heap.size + 1 + 1 + 1) (.slice (some ⟨w.heap.size + 1 + 1 + 1, 0, none⟩) 0 0) []) := O0
  have HRB : Hid (Rd ((((w.alloc (.cells #[.int .i64 0, .int .i64 0, .int .i64 0, .int .i64 0, .slice none 0 0] 24)).alloc (.cells #[.int .i64 0, .int .i64 0, .int .i64 0, .int .i64 0, .slice none 0 0] 24)).alloc (.cells #[.int .i64 dV, .int .i64 sV, .int .i64 (-1), .int .i64 yV, .slice none 0 0] 24)).alloc (.cells #[] 5)) (some ⟨b, off + 14, none⟩) b (off + 14) (body l)) := hrB
  have kr : (((w.alloc (.cells #[.int .i64 0, .int .i64 0, .int .i64 0, .int .i64 0, .slice none 0 0] 24)).alloc (.cells #[.int .i64 0, .int .i64 0, .int .i64 0, .int .i64 0, .slice none 0 0] 24)).alloc (.cells #[.int .i64 dV, .int .i64 sV, .int .i64 (-1), .int .i64 yV, .slice none 0 0] 24)).heap[w.heap.size]? = some (.cells #[.int .i64 0, .int .i64 0, .int .i64 0, .int .i64 0, .slice none 0 0] 24 (0, 0)) := by rw [at_old (by simp; omega), at_old (by simp), at_new rfl]
  have kn : (((w.alloc (.cells #[.int .i64 0, .int .i64 0, .int .i64 0, .int .i64 0, .slice none 0 0] 24)).alloc (.cells #[.int .i64 0, .int .i64 0, .int .i64 0, .int .i64 0, .slice none 0 0] 24)).alloc (.cells #[.int .i64 dV, .int .i64 sV, .int .i64 (-1), .int .i64 yV, .slice none 0 0] 24)).heap[w.heap.size + 1]? = some (.cells #[.int .i64 0, .int .i64 0, .int .i64 0, .int .i64 0, .slice none 0 0] 24 (0, 0)) := by rw [at_old (by simp), at_new (by simp)]
  have kp : (((w.alloc (.cells #[.int .i64 0, .int .i64 0, .int .i64 0, .int .i64 0, .slice none 0 0] 24)).alloc (.cells #[.int .i64 0, .int .i64 0, .int .i64 0, .int .i64 0, .slice none 0 0] 24)).alloc (.cells #[.int .i64 dV, .int .i64 sV, .int .i64 (-1), .int .i64 yV, .slice none 0 0] 24)).heap[w.heap.size + 2]? = some (.cells #[.int .i64 dV, .int .i64 sV, .int .i64 (-1), .int .i64 yV, .slice none 0 0] 24 (0, 0)) := by rw [at_new (by simp)]
  have HBE : Hid (Below (((w.alloc (.cells #[.int .i64 0, .int .i64 0, .int .i64 0, .int .i64 0, .slice none 0 0] 24)).alloc (.cells #[.int .i64 0, .int .i64 0, .int .i64 0, .int .i64 0, .slice none 0 0] 24)).alloc (.cells #[.int .i64 dV, .int .i64 sV, .int .i64 (-1), .int .i64 yV, .slice none 0 0] 24)).heap.size (((w.alloc (.cells #[.int .i64 0, .int .i64 0, .int .i64 0, .int .i64 0, .slice none 0 0] 24)).alloc (.cells #[.int .i64 0, .int .i64 0, .int .i64 0, .int .i64 0, .slice none 0 0] 24)).alloc (.cells #[.int .i64 dV, .int .i64 sV, .int .i64 (-1), .int .i64 yV, .slice none 0 0] 24)) ((((w.alloc (.cells #[.int .i64 0, .int .i64 0, .int .i64 0, .int .i64 0, .slice none 0 0] 24)).alloc (.cells #[.int .i64 0, .int .i64 0, .int .i64 0, .int .i64 0, .slice none 0 0] 24)).alloc (.cells #[.int .i64 dV, .int .i64 sV, .int .i64 (-1), .int .i64 yV, .slice none 0 0] 24)).alloc (.cells #[] 5))) := BE
  have hlb : n - 14 ≤ 1500 := by omega
  clear hbl HB O0 hrB BE
  go_enter Try.func23, Try.ntmps23
  go_wp2_with (first | (at_builtin; refine wpList_app rfl (.tmp 81) (.tmp 88) rfl _ _ [] (body l) rfl HOO.out (some ⟨b, off + 14, none⟩) b (off + 14) (cap - 14) (by rw [HBL.out]; rfl) HRB.out (by rw [HBL.out]; simp; omega) (by simp) ?_; intro v5 w5 hown hgrow; have hb5 := below_own HOO.out HBE.out (by omega) hgrow; have W5 := HRB.out; obtain ⟨g5, cap5, hv5, hg5, hw5⟩ := hasI_form hown (by simpa using W5.size) (by simpa using W5.byt); simp only [List.nil_append] at hv5 hw5; rw [HBL.out] at hv5; subst hv5; clear W5 hown hgrow; replace kr := (hb5.block _ (by omega)).trans kr; replace kn := (hb5.block _ (by omega)).trans kn; replace kp := (hb5.block _ (by omega)).trans kp; replace B3 := next B3 hb5; have z5 := hb5.size; clear hb5; obtain ⟨p0, p1, p2, p3, p4⟩ := five kp; have fp := Bl.free kp) | (go_at_call 42; clear tok4; refine (numS _ b off cap 12 2 l _ (HA.out _) (by decide) (by decide) (by have := HN.out; omega) yV Hy.out).mono ?_; rintro e w' ⟨rfl, hw'⟩; replace hw' := hw'.symm; subst hw'; have tok5 : True := trivial) | (go_at_call 42; clear tok3; refine (numS _ b off cap 6 6 l _ (HA.out _) (by decide) (by decide) (by have := HN.out; omega) sV Hs.out).mono ?_; rintro e w' ⟨rfl, hw'⟩; replace hw' := hw'.symm; subst hw'; have tok4 : True := trivial) | (go_at_call 42; clear tok2; refine (numS _ b off cap 0 6 l _ (HA.out _) (by decide) (by decide) (by have := HN.out; omega) dV Hd.out).mono ?_; rintro e w' ⟨rfl, hw'⟩; replace hw' := hw'.symm; subst hw'; have tok3 : True := trivial) | (go_at_call 41; refine HC.mono ?_; rintro e w' ⟨rfl, hw'⟩; replace hw' := hw'.symm; subst hw'; clear HC) | (go_at_call 42; clear tok1; refine HS.mono ?_; rintro e w' ⟨rfl, hw'⟩; replace hw' := hw'.symm; subst hw'; clear HS; have tok2 : True := trivial) | (go_at_call 42; clear tok0; refine KD.mono ?_; rintro e w' ⟨q, rfl, hw'⟩; replace hw' := hw'.symm; subst hw'; clear KD; have tok1 : True := trivial))
  have kr5 := (set_far (w := w5) (g := w.heap.size) (ad := ⟨w.heap.size + 1 + 1, 4, none⟩) (u := (.slice (some ⟨g5, 0, none⟩) (n - 14) cap5)) (by simp; omega)).trans kr
  have kn5 := (set_far (w := w5) (g := w.heap.size + 1) (ad := ⟨w.heap.size + 1 + 1, 4, none⟩) (u := (.slice (some ⟨g5, 0, none⟩) (n - 14) cap5)) (by simp)).trans kn
  have kp5 := set_four (w := w5) (g := w.heap.size + 1 + 1) (u := (.slice (some ⟨g5, 0, none⟩) (n - 14) cap5)) kp
  have B5 := bset B3 ⟨w.heap.size + 1 + 1, 4, none⟩ (.slice (some ⟨g5, 0, none⟩) (n - 14) cap5) (by simp; omega)
  have hw6 := Tg.wt_set (ad := ⟨w.heap.size + 1 + 1, 4, none⟩) (u := (.slice (some ⟨g5, 0, none⟩) (n - 14) cap5)) hw5 (by simp; omega)
  have z6 : w5.heap.size = (w5.setCell ⟨w.heap.size + 1 + 1, 4, none⟩ (.slice (some ⟨g5, 0, none⟩) (n - 14) cap5)).heap.size := by simp
  clear kr kn kp B3 hw5 p0 p1 p2 p3 p4 fp
  go_wp2_with (go_at_call 10; refine (Pk.specOk_any _ _ _ _ _ _ _ _).mono ?_; rw [hok]; rintro e w6 ⟨rfl, hb⟩; replace kr5 := (hb.block _ (by omega)).trans kr5; replace kn5 := (hb.block _ (by omega)).trans kn5; replace kp5 := (hb.block _ (by omega)).trans kp5; replace B5 := next B5 hb; replace hw6 := hw6.below hb; clear hb z6; obtain ⟨p0, p1, p2, p3, p4⟩ := five kp5; obtain ⟨n0, n1, n2, n3, n4⟩ := five kn5; obtain ⟨r0, r1, r2, r3, r4⟩ := five kr5; have fr := Bl.free kr5)
  refine bodyPost_ret (v := .tuple #[.agg #[.int .i64 0, .int .i64 0, .int .i64 0, .int .i64 0, .slice none 0 0], .int .i64 5]) (by simp [results, Try.results23, go_sem, r0, r1, r2, r3, r4]) rfl ⟨none, w.heap.size, 0, rfl, Wt.nil _ _ _, Nat.le_refl _, fun _ => rfl, ?_⟩
  exact bset (bset (bset (bset (bset B5 _ _ (by simp)) _ _ (by simp)) _ _ (by simp)) _ _ (by simp)) _ _ (by simp)

set_option maxHeartbeats 1000000 in
theorem sp14_0 (b off cap : Nat) (l : List Int) (w : World) (h : Rd w (some ⟨b, off, none⟩) b off l) (hH : hd l = 14) (hK : ¬ kind l = 33024) (n : Nat) (hn : l.length = n + 4) (h1 : 14 ≤ n) (h2 : n ≤ 1514) (hcap : l.length ≤ cap) (hsum : sumAt l = Pb.crcI (front l)) (hok : Pk.okB (Get.acc l 0 6) (Get.acc l 6 6) (-1) (Get.acc l 12 2) (n - 14) = true) :
    Calls Try.prog 23 #[.slice (some ⟨b, off, none⟩) l.length cap] w (ResC w (Get.acc l 0 6) (Get.acc l 6 6) (-1) (Get.acc l 12 2) 0 (body l)) := by
  have B := next (below_alloc1 w (.cells #[.int .i64 0, .int .i64 0, .int .i64 0, .int .i64 0, .slice none 0 0] 24)) (below_alloc1 _ (.cells #[.int .i64 0, .int .i64 0, .int .i64 0, .int .i64 0, .slice none 0 0] 24))
  have hs := h.size
  replace h := h.below B
  have KD := kindSpec_any _ b off cap l _ h
  generalize kind l = K at *
  have hk2 : (K == 33024) = false := by simpa using hK
  obtain ⟨S, hS⟩ : ∃ S, S = sumAt l := ⟨_, rfl⟩
  obtain ⟨C, hC⟩ : ∃ C, C = Pb.crcI (front l) := ⟨_, rfl⟩
  have HS := sumS _ b off cap n l _ h hn S hS
  have HC := crcFrontS b off cap n l _ h hn C hC
  have hmn : (l.length : Int) - 4 = (n : Int) := by omega
  have hq : ¬ ((l.length : Int) < 18) := by omega
  have hq2 : ¬ ((1518 : Int) < (l.length : Int)) := by omega
  have hnc : (n : Int) ≤ (cap : Int) := by omega
  have hn0 : (0 : Int) ≤ (n : Int) := by omega
  have hnH : (14 : Int) ≤ (n : Int) := by omega
  have hsc : S = C := by rw [hS, hC]; exact hsum
  have HB : Hid (body l = (l.drop 14).take (n - 14)) := by unfold Hid body; rw [hH, hn]; rfl
  obtain ⟨dV, hdV⟩ : ∃ V, V = Get.acc l 0 6 := ⟨_, rfl⟩
  obtain ⟨sV, hsV⟩ : ∃ V, V = Get.acc l 6 6 := ⟨_, rfl⟩
  obtain ⟨yV, hyV⟩ : ∃ V, V = Get.acc l 12 2 := ⟨_, rfl⟩
  rw [← hdV, ← hsV, ← hyV]
  rw [← hdV, ← hsV, ← hyV] at hok
  have Hd : Hid (dV = Get.acc l 0 6) := hdV
  have Hs : Hid (sV = Get.acc l 6 6) := hsV
  have Hy : Hid (yV = Get.acc l 12 2) := hyV
  clear hdV hsV hyV
  subst hsc
  have HA : Hid (∀ o, Rd (((w.alloc (.cells #[.int .i64 0, .int .i64 0, .int .i64 0, .int .i64 0, .slice none 0 0] 24)).alloc (.cells #[.int .i64 0, .int .i64 0, .int .i64 0, .int .i64 0, .slice none 0 0] 24)).alloc o) (some ⟨b, off, none⟩) b off l) := fun o => h.below (below_alloc1 _ _)
  clear hS hC hsum hH
  have HN : Hid (l.length = n + 4) := hn
  clear hn
  have tok0 : True := trivial
  have hbl : (body l).length = n - 14 := by rw [HB.out, List.length_take, List.length_drop, HN.out]; omega
  have HBL : Hid ((body l).length = n - 14) := hbl
  have BE := below_alloc1 (((w.alloc (.cells #[.int .i64 0, .int .i64 0, .int .i64 0, .int .i64 0, .slice none 0 0] 24)).alloc (.cells #[.int .i64 0, .int .i64 0, .int .i64 0, .int .i64 0, .slice none 0 0] 24)).alloc (.cells #[.int .i64 dV, .int .i64 sV, .int .i64 (-1), .int .i64 yV, .slice none 0 0] 24)) (.cells #[] 5)
  have z3 : (((w.alloc (.cells #[.int .i64 0, .int .i64 0, .int .i64 0, .int .i64 0, .slice none 0 0] 24)).alloc (.cells #[.int .i64 0, .int .i64 0, .int .i64 0, .int .i64 0, .slice none 0 0] 24)).alloc (.cells #[.int .i64 dV, .int .i64 sV, .int .i64 (-1), .int .i64 yV, .slice none 0 0] 24)).heap.size = w.heap.size + 1 + 1 + 1 := by simp
  have O0 := own_empty (((w.alloc (.cells #[.int .i64 0, .int .i64 0, .int .i64 0, .int .i64 0, .slice none 0 0] 24)).alloc (.cells #[.int .i64 0, .int .i64 0, .int .i64 0, .int .i64 0, .slice none 0 0] 24)).alloc (.cells #[.int .i64 dV, .int .i64 sV, .int .i64 (-1), .int .i64 yV, .slice none 0 0] 24))
  rw [z3] at O0
  have B3 := next B (below_alloc1 ((w.alloc (.cells #[.int .i64 0, .int .i64 0, .int .i64 0, .int .i64 0, .slice none 0 0] 24)).alloc (.cells #[.int .i64 0, .int .i64 0, .int .i64 0, .int .i64 0, .slice none 0 0] 24)) (.cells #[.int .i64 dV, .int .i64 sV, .int .i64 (-1), .int .i64 yV, .slice none 0 0] 24))
  have hrB : Rd ((((w.alloc (.cells #[.int .i64 0, .int .i64 0, .int .i64 0, .int .i64 0, .slice none 0 0] 24)).alloc (.cells #[.int .i64 0, .int .i64 0, .int .i64 0, .int .i64 0, .slice none 0 0] 24)).alloc (.cells #[.int .i64 dV, .int .i64 sV, .int .i64 (-1), .int .i64 yV, .slice none 0 0] 24)).alloc (.cells #[] 5)) (some ⟨b, off + 14, none⟩) b (off + 14) (body l) := by rw [HB.out]; exact rd_take (rd_drop ((HA.out _).below BE) _) _
  have HOO : Hid (HasI ((((w.alloc (.cells #[.int .i64 0, .int .i64 0, .int .i64 0, .int .i64 0, .slice none 0 0] 24)).alloc (.cells #[.int .i64 0, .int .i64 0, .int .i64 0, .int .i64 0, .slice none 0 0] 24)).alloc (.cells #[.int .i64 dV, .int .i64 sV, .int .i64 (-1), .int .i64 yV, .slice none 0 0] 24)).alloc (.cells #[] 5)) (w.heap.size + 1 + 1 + 1) (.slice (some ⟨w.heap.size + 1 + 1 + 1, 0, none⟩) 0 0) []) := O0
  have HRB : Hid (Rd ((((w.alloc (.cells #[.int .i64 0, .int .i64 0, .int .i64 0, .int .i64 0, .slice none 0 0] 24)).alloc (.cells #[.int .i64 0, .int .i64 0, .int .i64 0, .int .i64 0, .slice none 0 0] 24)).alloc (.cells #[.int .i64 dV, .int .i64 sV, .int .i64 (-1), .int .i64 yV, .slice none 0 0] 24)).alloc (.cells #[] 5)) (some ⟨b, off + 14, none⟩) b (off + 14) (body l)) := hrB
  have kr : (((w.alloc (.cells #[.int .i64 0, .int .i64 0, .int .i64 0, .int .i64 0, .slice none 0 0] 24)).alloc (.cells #[.int .i64 0, .int .i64 0, .int .i64 0, .int .i64 0, .slice none 0 0] 24)).alloc (.cells #[.int .i64 dV, .int .i64 sV, .int .i64 (-1), .int .i64 yV, .slice none 0 0] 24)).heap[w.heap.size]? = some (.cells #[.int .i64 0, .int .i64 0, .int .i64 0, .int .i64 0, .slice none 0 0] 24 (0, 0)) := by rw [at_old (by simp; omega), at_old (by simp), at_new rfl]
  have kn : (((w.alloc (.cells #[.int .i64 0, .int .i64 0, .int .i64 0, .int .i64 0, .slice none 0 0] 24)).alloc (.cells #[.int .i64 0, .int .i64 0, .int .i64 0, .int .i64 0, .slice none 0 0] 24)).alloc (.cells #[.int .i64 dV, .int .i64 sV, .int .i64 (-1), .int .i64 yV, .slice none 0 0] 24)).heap[w.heap.size + 1]? = some (.cells #[.int .i64 0, .int .i64 0, .int .i64 0, .int .i64 0, .slice none 0 0] 24 (0, 0)) := by rw [at_old (by simp), at_new (by simp)]
  have kp : (((w.alloc (.cells #[.int .i64 0, .int .i64 0, .int .i64 0, .int .i64 0, .slice none 0 0] 24)).alloc (.cells #[.int .i64 0, .int .i64 0, .int .i64 0, .int .i64 0, .slice none 0 0] 24)).alloc (.cells #[.int .i64 dV, .int .i64 sV, .int .i64 (-1), .int .i64 yV, .slice none 0 0] 24)).heap[w.heap.size + 2]? = some (.cells #[.int .i64 dV, .int .i64 sV, .int .i64 (-1), .int .i64 yV, .slice none 0 0] 24 (0, 0)) := by rw [at_new (by simp)]
  have HBE : Hid (Below (((w.alloc (.cells #[.int .i64 0, .int .i64 0, .int .i64 0, .int .i64 0, .slice none 0 0] 24)).alloc (.cells #[.int .i64 0, .int .i64 0, .int .i64 0, .int .i64 0, .slice none 0 0] 24)).alloc (.cells #[.int .i64 dV, .int .i64 sV, .int .i64 (-1), .int .i64 yV, .slice none 0 0] 24)).heap.size (((w.alloc (.cells #[.int .i64 0, .int .i64 0, .int .i64 0, .int .i64 0, .slice none 0 0] 24)).alloc (.cells #[.int .i64 0, .int .i64 0, .int .i64 0, .int .i64 0, .slice none 0 0] 24)).alloc (.cells #[.int .i64 dV, .int .i64 sV, .int .i64 (-1), .int .i64 yV, .slice none 0 0] 24)) ((((w.alloc (.cells #[.int .i64 0, .int .i64 0, .int .i64 0, .int .i64 0, .slice none 0 0] 24)).alloc (.cells #[.int .i64 0, .int .i64 0, .int .i64 0, .int .i64 0, .slice none 0 0] 24)).alloc (.cells #[.int .i64 dV, .int .i64 sV, .int .i64 (-1), .int .i64 yV, .slice none 0 0] 24)).alloc (.cells #[] 5))) := BE
  have hlb : n - 14 ≤ 1500 := by omega
  clear hbl HB O0 hrB BE
  go_enter Try.func23, Try.ntmps23
  go_wp2_with (first | (at_builtin; refine wpList_app rfl (.tmp 81) (.tmp 88) rfl _ _ [] (body l) rfl HOO.out (some ⟨b, off + 14, none⟩) b (off + 14) (cap - 14) (by rw [HBL.out]; rfl) HRB.out (by rw [HBL.out]; simp; omega) (by simp) ?_; intro v5 w5 hown hgrow; have hb5 := below_own HOO.out HBE.out (by omega) hgrow; have W5 := HRB.out; obtain ⟨g5, cap5, hv5, hg5, hw5⟩ := hasI_form hown (by simpa using W5.size) (by simpa using W5.byt); simp only [List.nil_append] at hv5 hw5; rw [HBL.out] at hv5; subst hv5; clear W5 hown hgrow; replace kr := (hb5.block _ (by omega)).trans kr; replace kn := (hb5.block _ (by omega)).trans kn; replace kp := (hb5.block _ (by omega)).trans kp; replace B3 := next B3 hb5; have z5 := hb5.size; clear hb5; obtain ⟨p0, p1, p2, p3, p4⟩ := five kp; have fp := Bl.free kp) | (go_at_call 42; clear tok4; refine (numS _ b off cap 12 2 l _ (HA.out _) (by decide) (by decide) (by have := HN.out; omega) yV Hy.out).mono ?_; rintro e w' ⟨rfl, hw'⟩; replace hw' := hw'.symm; subst hw'; have tok5 : True := trivial) | (go_at_call 42; clear tok3; refine (numS _ b off cap 6 6 l _ (HA.out _) (by decide) (by decide) (by have := HN.out; omega) sV Hs.out).mono ?_; rintro e w' ⟨rfl, hw'⟩; replace hw' := hw'.symm; subst hw'; have tok4 : True := trivial) | (go_at_call 42; clear tok2; refine (numS _ b off cap 0 6 l _ (HA.out _) (by decide) (by decide) (by have := HN.out; omega) dV Hd.out).mono ?_; rintro e w' ⟨rfl, hw'⟩; replace hw' := hw'.symm; subst hw'; have tok3 : True := trivial) | (go_at_call 41; refine HC.mono ?_; rintro e w' ⟨rfl, hw'⟩; replace hw' := hw'.symm; subst hw'; clear HC) | (go_at_call 42; clear tok1; refine HS.mono ?_; rintro e w' ⟨rfl, hw'⟩; replace hw' := hw'.symm; subst hw'; clear HS; have tok2 : True := trivial) | (go_at_call 42; clear tok0; refine KD.mono ?_; rintro e w' ⟨q, rfl, hw'⟩; replace hw' := hw'.symm; subst hw'; clear KD; have tok1 : True := trivial))
  have kr5 := (set_far (w := w5) (g := w.heap.size) (ad := ⟨w.heap.size + 1 + 1, 4, none⟩) (u := (.slice (some ⟨g5, 0, none⟩) (n - 14) cap5)) (by simp; omega)).trans kr
  have kn5 := (set_far (w := w5) (g := w.heap.size + 1) (ad := ⟨w.heap.size + 1 + 1, 4, none⟩) (u := (.slice (some ⟨g5, 0, none⟩) (n - 14) cap5)) (by simp)).trans kn
  have kp5 := set_four (w := w5) (g := w.heap.size + 1 + 1) (u := (.slice (some ⟨g5, 0, none⟩) (n - 14) cap5)) kp
  have B5 := bset B3 ⟨w.heap.size + 1 + 1, 4, none⟩ (.slice (some ⟨g5, 0, none⟩) (n - 14) cap5) (by simp; omega)
  have hw6 := Tg.wt_set (ad := ⟨w.heap.size + 1 + 1, 4, none⟩) (u := (.slice (some ⟨g5, 0, none⟩) (n - 14) cap5)) hw5 (by simp; omega)
  have z6 : w5.heap.size = (w5.setCell ⟨w.heap.size + 1 + 1, 4, none⟩ (.slice (some ⟨g5, 0, none⟩) (n - 14) cap5)).heap.size := by simp
  clear kr kn kp B3 hw5 p0 p1 p2 p3 p4 fp
  go_wp2_with (go_at_call 10; refine (Pk.specOk_any _ _ _ _ _ _ _ _).mono ?_; rw [hok]; rintro e w6 ⟨rfl, hb⟩; replace kr5 := (hb.block _ (by omega)).trans kr5; replace kn5 := (hb.block _ (by omega)).trans kn5; replace kp5 := (hb.block _ (by omega)).trans kp5; replace B5 := next B5 hb; replace hw6 := hw6.below hb; clear hb z6; obtain ⟨p0, p1, p2, p3, p4⟩ := five kp5; obtain ⟨n0, n1, n2, n3, n4⟩ := five kn5; obtain ⟨r0, r1, r2, r3, r4⟩ := five kr5; have fr := Bl.free kr5)
  refine bodyPost_ret (v := .tuple #[.agg #[.int .i64 dV, .int .i64 sV, .int .i64 (-1), .int .i64 yV, (.slice (some ⟨g5, 0, none⟩) (n - 14) cap5)], .int .i64 0]) (by simp [results, Try.results23, go_sem, r0, r1, r2, r3, r4]) rfl ⟨some ⟨g5, 0, none⟩, g5, cap5, by rw [HBL.out], ?_, by omega, by simp, ?_⟩
  · exact Tg.wt_set (Tg.wt_set (Tg.wt_set (Tg.wt_set (Tg.wt_set hw6 (by simp; omega)) (by simp; omega)) (by simp; omega)) (by simp; omega)) (by simp; omega)
  · exact bset (bset (bset (bset (bset B5 _ _ (by simp)) _ _ (by simp)) _ _ (by simp)) _ _ (by simp)) _ _ (by simp)

set_option maxHeartbeats 1000000 in
theorem sp18_1 (a : Option Addr) (b off cap : Nat) (l : List Int) (w : World) (h : Rd w a b off l) (hK : kind l = 33024) (hc : l.length < 22) :
    Calls Try.prog 23 #[.slice a l.length cap] w (ResC w 0 0 0 0 1 []) := by
  have B := next (below_alloc1 w (.cells #[.int .i64 0, .int .i64 0, .int .i64 0, .int .i64 0, .slice none 0 0] 24)) (below_alloc1 _ (.cells #[.int .i64 0, .int .i64 0, .int .i64 0, .int .i64 0, .slice none 0 0] 24))
  have hs := h.size
  replace h := h.below B
  have KD := kindSpec_any _ b off cap l _ h
  rw [hK] at KD
  have hq : (l.length : Int) < 22 := by omega
  have tok0 : True := trivial
  go_enter Try.func23, Try.ntmps23
  go_wp2_with (go_at_call 42; clear tok0; refine KD.mono ?_; rintro e w' ⟨q, rfl, hw'⟩; replace hw' := hw'.symm; subst hw'; clear KD; have tok1 : True := trivial)
  refine bodyPost_ret (v := .tuple #[.agg #[.int .i64 0, .int .i64 0, .int .i64 0, .int .i64 0, .slice none 0 0], .int .i64 1]) (by simp [results, Try.results23, go_sem]) rfl ⟨none, w.heap.size, 0, rfl, Wt.nil _ _ _, Nat.le_refl _, fun _ => rfl, ?_⟩
  exact B

set_option maxHeartbeats 1000000 in
theorem sp18_2 (a : Option Addr) (b off cap : Nat) (l : List Int) (w : World) (h : Rd w a b off l) (hK : kind l = 33024) (hc : 1522 < l.length) :
    Calls Try.prog 23 #[.slice a l.length cap] w (ResC w 0 0 0 0 2 []) := by
  have B := next (below_alloc1 w (.cells #[.int .i64 0, .int .i64 0, .int .i64 0, .int .i64 0, .slice none 0 0] 24)) (below_alloc1 _ (.cells #[.int .i64 0, .int .i64 0, .int .i64 0, .int .i64 0, .slice none 0 0] 24))
  have hs := h.size
  replace h := h.below B
  have KD := kindSpec_any _ b off cap l _ h
  rw [hK] at KD
  have hq : ¬ ((l.length : Int) < 22) := by omega
  have hq2 : (1522 : Int) < (l.length : Int) := by omega
  have tok0 : True := trivial
  go_enter Try.func23, Try.ntmps23
  go_wp2_with (go_at_call 42; clear tok0; refine KD.mono ?_; rintro e w' ⟨q, rfl, hw'⟩; replace hw' := hw'.symm; subst hw'; clear KD; have tok1 : True := trivial)
  refine bodyPost_ret (v := .tuple #[.agg #[.int .i64 0, .int .i64 0, .int .i64 0, .int .i64 0, .slice none 0 0], .int .i64 2]) (by simp [results, Try.results23, go_sem]) rfl ⟨none, w.heap.size, 0, rfl, Wt.nil _ _ _, Nat.le_refl _, fun _ => rfl, ?_⟩
  exact B

set_option maxHeartbeats 1000000 in
theorem sp18_3 (b off cap : Nat) (l : List Int) (w : World) (h : Rd w (some ⟨b, off, none⟩) b off l) (hK : kind l = 33024) (n : Nat) (hn : l.length = n + 4) (h1 : 18 ≤ n) (h2 : n ≤ 1518) (hcap : l.length ≤ cap) (hsum : ¬ sumAt l = Pb.crcI (front l)) :
    Calls Try.prog 23 #[.slice (some ⟨b, off, none⟩) l.length cap] w (ResC w 0 0 0 0 3 []) := by
  have B := next (below_alloc1 w (.cells #[.int .i64 0, .int .i64 0, .int .i64 0, .int .i64 0, .slice none 0 0] 24)) (below_alloc1 _ (.cells #[.int .i64 0, .int .i64 0, .int .i64 0, .int .i64 0, .slice none 0 0] 24))
  have hs := h.size
  replace h := h.below B
  have KD := kindSpec_any _ b off cap l _ h
  rw [hK] at KD
  obtain ⟨S, hS⟩ : ∃ S, S = sumAt l := ⟨_, rfl⟩
  obtain ⟨C, hC⟩ : ∃ C, C = Pb.crcI (front l) := ⟨_, rfl⟩
  have HS := sumS _ b off cap n l _ h hn S hS
  have HC := crcFrontS b off cap n l _ h hn C hC
  have hmn : (l.length : Int) - 4 = (n : Int) := by omega
  have hq : ¬ ((l.length : Int) < 22) := by omega
  have hq2 : ¬ ((1522 : Int) < (l.length : Int)) := by omega
  have hnc : (n : Int) ≤ (cap : Int) := by omega
  have hn0 : (0 : Int) ≤ (n : Int) := by omega
  have hnH : (18 : Int) ≤ (n : Int) := by omega
  have hne : (S != C) = true := by rw [hS, hC]; simpa using hsum
  clear hS hC hsum
  have HN : Hid (l.length = n + 4) := hn
  clear hn
  have tok0 : True := trivial
  go_enter Try.func23, Try.ntmps23
  go_wp2_with (first | (go_at_call 42; clear tok0; refine KD.mono ?_; rintro e w' ⟨q, rfl, hw'⟩; replace hw' := hw'.symm; subst hw'; clear KD; have tok1 : True := trivial) | (go_at_call 42; clear tok1; refine HS.mono ?_; rintro e w' ⟨rfl, hw'⟩; replace hw' := hw'.symm; subst hw'; clear HS; have tok2 : True := trivial) | (go_at_call 41; refine HC.mono ?_; rintro e w' ⟨rfl, hw'⟩; replace hw' := hw'.symm; subst hw'; clear HC))
  refine bodyPost_ret (v := .tuple #[.agg #[.int .i64 0, .int .i64 0, .int .i64 0, .int .i64 0, .slice none 0 0], .int .i64 3]) (by simp [results, Try.results23, go_sem]) rfl ⟨none, w.heap.size, 0, rfl, Wt.nil _ _ _, Nat.le_refl _, fun _ => rfl, ?_⟩
  exact B

set_option maxHeartbeats 1000000 in
theorem sp18_4 (b off cap : Nat) (l : List Int) (w : World) (h : Rd w (some ⟨b, off, none⟩) b off l) (hH : hd l = 18) (hK : kind l = 33024) (n : Nat) (hn : l.length = n + 4) (h1 : 18 ≤ n) (h2 : n ≤ 1518) (hcap : l.length ≤ cap) (hsum : sumAt l = Pb.crcI (front l)) (htag : 4094 < Get.acc l 14 2) :
    Calls Try.prog 23 #[.slice (some ⟨b, off, none⟩) l.length cap] w (ResC w 0 0 0 0 4 []) := by
  have B := next (below_alloc1 w (.cells #[.int .i64 0, .int .i64 0, .int .i64 0, .int .i64 0, .slice none 0 0] 24)) (below_alloc1 _ (.cells #[.int .i64 0, .int .i64 0, .int .i64 0, .int .i64 0, .slice none 0 0] 24))
  have hs := h.size
  replace h := h.below B
  have KD := kindSpec_any _ b off cap l _ h
  rw [hK] at KD
  obtain ⟨S, hS⟩ : ∃ S, S = sumAt l := ⟨_, rfl⟩
  obtain ⟨C, hC⟩ : ∃ C, C = Pb.crcI (front l) := ⟨_, rfl⟩
  have HS := sumS _ b off cap n l _ h hn S hS
  have HC := crcFrontS b off cap n l _ h hn C hC
  have hmn : (l.length : Int) - 4 = (n : Int) := by omega
  have hq : ¬ ((l.length : Int) < 22) := by omega
  have hq2 : ¬ ((1522 : Int) < (l.length : Int)) := by omega
  have hnc : (n : Int) ≤ (cap : Int) := by omega
  have hn0 : (0 : Int) ≤ (n : Int) := by omega
  have hnH : (18 : Int) ≤ (n : Int) := by omega
  have hsc : S = C := by rw [hS, hC]; exact hsum
  have HB : Hid (body l = (l.drop 18).take (n - 18)) := by unfold Hid body; rw [hH, hn]; rfl
  obtain ⟨dV, hdV⟩ : ∃ V, V = Get.acc l 0 6 := ⟨_, rfl⟩
  obtain ⟨sV, hsV⟩ : ∃ V, V = Get.acc l 6 6 := ⟨_, rfl⟩
  obtain ⟨yV, hyV⟩ : ∃ V, V = Get.acc l 16 2 := ⟨_, rfl⟩
  obtain ⟨tV, htV⟩ : ∃ V, V = Get.acc l 14 2 := ⟨_, rfl⟩
  rw [← htV] at htag
  have Hd : Hid (dV = Get.acc l 0 6) := hdV
  have Hs : Hid (sV = Get.acc l 6 6) := hsV
  have Hy : Hid (yV = Get.acc l 16 2) := hyV
  have Ht : Hid (tV = Get.acc l 14 2) := htV
  clear hdV hsV hyV htV
  subst hsc
  have HA : Hid (∀ o, Rd (((w.alloc (.cells #[.int .i64 0, .int .i64 0, .int .i64 0, .int .i64 0, .slice none 0 0] 24)).alloc (.cells #[.int .i64 0, .int .i64 0, .int .i64 0, .int .i64 0, .slice none 0 0] 24)).alloc o) (some ⟨b, off, none⟩) b off l) := fun o => h.below (below_alloc1 _ _)
  clear hS hC hsum hH
  have HN : Hid (l.length = n + 4) := hn
  clear hn
  have tok0 : True := trivial
  go_enter Try.func23, Try.ntmps23
  go_wp2_with (first | (go_at_call 42; clear tok0; refine KD.mono ?_; rintro e w' ⟨q, rfl, hw'⟩; replace hw' := hw'.symm; subst hw'; clear KD; have tok1 : True := trivial) | (go_at_call 42; clear tok1; refine HS.mono ?_; rintro e w' ⟨rfl, hw'⟩; replace hw' := hw'.symm; subst hw'; clear HS; have tok2 : True := trivial) | (go_at_call 41; refine HC.mono ?_; rintro e w' ⟨rfl, hw'⟩; replace hw' := hw'.symm; subst hw'; clear HC) | (go_at_call 42; clear tok2; refine (numS _ b off cap 0 6 l _ (HA.out _) (by decide) (by decide) (by have := HN.out; omega) dV Hd.out).mono ?_; rintro e w' ⟨rfl, hw'⟩; replace hw' := hw'.symm; subst hw'; have tok3 : True := trivial) | (go_at_call 42; clear tok3; refine (numS _ b off cap 6 6 l _ (HA.out _) (by decide) (by decide) (by have := HN.out; omega) sV Hs.out).mono ?_; rintro e w' ⟨rfl, hw'⟩; replace hw' := hw'.symm; subst hw'; have tok4 : True := trivial) | (go_at_call 42; clear tok4; refine (numS _ b off cap 14 2 l _ (HA.out _) (by decide) (by decide) (by have := HN.out; omega) tV Ht.out).mono ?_; rintro e w' ⟨rfl, hw'⟩; replace hw' := hw'.symm; subst hw'; have tok5 : True := trivial))
  refine bodyPost_ret (v := .tuple #[.agg #[.int .i64 0, .int .i64 0, .int .i64 0, .int .i64 0, .slice none 0 0], .int .i64 4]) (by simp [results, Try.results23, go_sem]) rfl ⟨none, w.heap.size, 0, rfl, Wt.nil _ _ _, Nat.le_refl _, fun _ => rfl, ?_⟩
  exact next B (below_alloc1 _ _)

set_option maxHeartbeats 1000000 in
theorem sp18_5 (b off cap : Nat) (l : List Int) (w : World) (h : Rd w (some ⟨b, off, none⟩) b off l) (hH : hd l = 18) (hK : kind l = 33024) (n : Nat) (hn : l.length = n + 4) (h1 : 18 ≤ n) (h2 : n ≤ 1518) (hcap : l.length ≤ cap) (hsum : sumAt l = Pb.crcI (front l)) (htag : ¬ 4094 < Get.acc l 14 2) (hok : Pk.okB (Get.acc l 0 6) (Get.acc l 6 6) (Get.acc l 14 2) (Get.acc l 16 2) (n - 18) = false) :
    Calls Try.prog 23 #[.slice (some ⟨b, off, none⟩) l.length cap] w (ResC w 0 0 0 0 5 []) := by
  have B := next (below_alloc1 w (.cells #[.int .i64 0, .int .i64 0, .int .i64 0, .int .i64 0, .slice none 0 0] 24)) (below_alloc1 _ (.cells #[.int .i64 0, .int .i64 0, .int .i64 0, .int .i64 0, .slice none 0 0] 24))
  have hs := h.size
  replace h := h.below B
  have KD := kindSpec_any _ b off cap l _ h
  rw [hK] at KD
  obtain ⟨S, hS⟩ : ∃ S, S = sumAt l := ⟨_, rfl⟩
  obtain ⟨C, hC⟩ : ∃ C, C = Pb.crcI (front l) := ⟨_, rfl⟩
  have HS := sumS _ b off cap n l _ h hn S hS
  have HC := crcFrontS b off cap n l _ h hn C hC
  have hmn : (l.length : Int) - 4 = (n : Int) := by omega
  have hq : ¬ ((l.length : Int) < 22) := by omega
  have hq2 : ¬ ((1522 : Int) < (l.length : Int)) := by omega
  have hnc : (n : Int) ≤ (cap : Int) := by omega
  have hn0 : (0 : Int) ≤ (n : Int) := by omega
  have hnH : (18 : Int) ≤ (n : Int) := by omega
  have hsc : S = C := by rw [hS, hC]; exact hsum
  have HB : Hid (body l = (l.drop 18).take (n - 18)) := by unfold Hid body; rw [hH, hn]; rfl
  obtain ⟨dV, hdV⟩ : ∃ V, V = Get.acc l 0 6 := ⟨_, rfl⟩
  obtain ⟨sV, hsV⟩ : ∃ V, V = Get.acc l 6 6 := ⟨_, rfl⟩
  obtain ⟨yV, hyV⟩ : ∃ V, V = Get.acc l 16 2 := ⟨_, rfl⟩
  obtain ⟨tV, htV⟩ : ∃ V, V = Get.acc l 14 2 := ⟨_, rfl⟩
  rw [← hdV, ← hsV, ← hyV, ← htV] at hok
  rw [← htV] at htag
  have Hd : Hid (dV = Get.acc l 0 6) := hdV
  have Hs : Hid (sV = Get.acc l 6 6) := hsV
  have Hy : Hid (yV = Get.acc l 16 2) := hyV
  have Ht : Hid (tV = Get.acc l 14 2) := htV
  clear hdV hsV hyV htV
  subst hsc
  have HA : Hid (∀ o, Rd (((w.alloc (.cells #[.int .i64 0, .int .i64 0, .int .i64 0, .int .i64 0, .slice none 0 0] 24)).alloc (.cells #[.int .i64 0, .int .i64 0, .int .i64 0, .int .i64 0, .slice none 0 0] 24)).alloc o) (some ⟨b, off, none⟩) b off l) := fun o => h.below (below_alloc1 _ _)
  clear hS hC hsum hH
  have HN : Hid (l.length = n + 4) := hn
  clear hn
  have tok0 : True := trivial
  have hbl : (body l).length = n - 18 := by rw [HB.out, List.length_take, List.length_drop, HN.out]; omega
  have HBL : Hid ((body l).length = n - 18) := hbl
  have BE := below_alloc1 (((w.alloc (.cells #[.int .i64 0, .int .i64 0, .int .i64 0, .int .i64 0, .slice none 0 0] 24)).alloc (.cells #[.int .i64 0, .int .i64 0, .int .i64 0, .int .i64 0, .slice none 0 0] 24)).alloc (.cells #[.int .i64 dV, .int .i64 sV, .int .i64 tV, .int .i64 yV, .slice none 0 0] 24)) (.cells #[] 5)
  have z3 : (((w.alloc (.cells #[.int .i64 0, .int .i64 0, .int .i64 0, .int .i64 0, .slice none 0 0] 24)).alloc (.cells #[.int .i64 0, .int .i64 0, .int .i64 0, .int .i64 0, .slice none 0 0] 24)).alloc (.cells #[.int .i64 dV, .int .i64 sV, .int .i64 tV, .int .i64 yV, .slice none 0 0] 24)).heap.size = w.heap.size + 1 + 1 + 1 := by simp
  have O0 := own_empty (((w.alloc (.cells #[.int .i64 0, .int .i64 0, .int .i64 0, .int .i64 0, .slice none 0 0] 24)).alloc (.cells #[.int .i64 0, .int .i64 0, .int .i64 0, .int .i64 0, .slice none 0 0] 24)).alloc (.cells #[.int .i64 dV, .int .i64 sV, .int .i64 tV, .int .i64 yV, .slice none 0 0] 24))
  rw [z3] at O0
  have B3 := next B (below_alloc1 ((w.alloc (.cells #[.int .i64 0, .int .i64 0, .int .i64 0, .int .i64 0, .slice none 0 0] 24)).alloc (.cells #[.int .i64 0, .int .i64 0, .int .i64 0, .int .i64 0, .slice none 0 0] 24)) (.cells #[.int .i64 dV, .int .i64 sV, .int .i64 tV, .int .i64 yV, .slice none 0 0] 24))
  have hrB : Rd ((((w.alloc (.cells #[.int .i64 0, .int .i64 0, .int .i64 0, .int .i64 0, .slice none 0 0] 24)).alloc (.cells #[.int .i64 0, .int .i64 0, .int .i64 0, .int .i64 0, .slice none 0 0] 24)).alloc (.cells #[.int .i64 dV, .int .i64 sV, .int .i64 tV, .int .i64 yV, .slice none 0 0] 24)).alloc (.cells #[] 5)) (some ⟨b, off + 18, none⟩) b (off + 18) (body l) := by rw [HB.out]; exact rd_take (rd_drop ((HA.out _).below BE) _) _
  have HOO : Hid (HasI ((((w.alloc (.cells #[.int .i64 0, .int .i64 0, .int .i64 0, .int .i64 0, .slice none 0 0] 24)).alloc (.cells #[.int .i64 0, .int .i64 0, .int .i64 0, .int .i64 0, .slice none 0 0] 24)).alloc (.cells #[.int .i64 dV, .int .i64 sV, .int .i64 tV, .int .i64 yV, .slice none 0 0] 24)).alloc (.cells #[] 5)) (w.heap.size + 1 + 1 + 1) (.slice (some ⟨w.heap.size + 1 + 1 + 1, 0, none⟩) 0 0) []) := O0
  have HRB : Hid (Rd ((((w.alloc (.cells #[.int .i64 0, .int .i64 0, .int .i64 0, .int .i64 0, .slice none 0 0] 24)).alloc (.cells #[.int .i64 0, .int .i64 0, .int .i64 0, .int .i64 0, .slice none 0 0] 24)).alloc (.cells #[.int .i64 dV, .int .i64 sV, .int .i64 tV, .int .i64 yV, .slice none 0 0] 24)).alloc (.cells #[] 5)) (some ⟨b, off + 18, none⟩) b (off + 18) (body l)) := hrB
  have kr : (((w.alloc (.cells #[.int .i64 0, .int .i64 0, .int .i64 0, .int .i64 0, .slice none 0 0] 24)).alloc (.cells #[.int .i64 0, .int .i64 0, .int .i64 0, .int .i64 0, .slice none 0 0] 24)).alloc (.cells #[.int .i64 dV, .int .i64 sV, .int .i64 tV, .int .i64 yV, .slice none 0 0] 24)).heap[w.heap.size]? = some (.cells #[.int .i64 0, .int .i64 0, .int .i64 0, .int .i64 0, .slice none 0 0] 24 (0, 0)) := by rw [at_old (by simp; omega), at_old (by simp), at_new rfl]
  have kn : (((w.alloc (.cells #[.int .i64 0, .int .i64 0, .int .i64 0, .int .i64 0, .slice none 0 0] 24)).alloc (.cells #[.int .i64 0, .int .i64 0, .int .i64 0, .int .i64 0, .slice none 0 0] 24)).alloc (.cells #[.int .i64 dV, .int .i64 sV, .int .i64 tV, .int .i64 yV, .slice none 0 0] 24)).heap[w.heap.size + 1]? = some (.cells #[.int .i64 0, .int .i64 0, .int .i64 0, .int .i64 0, .slice none 0 0] 24 (0, 0)) := by rw [at_old (by simp), at_new (by simp)]
  have kp : (((w.alloc (.cells #[.int .i64 0, .int .i64 0, .int .i64 0, .int .i64 0, .slice none 0 0] 24)).alloc (.cells #[.int .i64 0, .int .i64 0, .int .i64 0, .int .i64 0, .slice none 0 0] 24)).alloc (.cells #[.int .i64 dV, .int .i64 sV, .int .i64 tV, .int .i64 yV, .slice none 0 0] 24)).heap[w.heap.size + 2]? = some (.cells #[.int .i64 dV, .int .i64 sV, .int .i64 tV, .int .i64 yV, .slice none 0 0] 24 (0, 0)) := by rw [at_new (by simp)]
  have HBE : Hid (Below (((w.alloc (.cells #[.int .i64 0, .int .i64 0, .int .i64 0, .int .i64 0, .slice none 0 0] 24)).alloc (.cells #[.int .i64 0, .int .i64 0, .int .i64 0, .int .i64 0, .slice none 0 0] 24)).alloc (.cells #[.int .i64 dV, .int .i64 sV, .int .i64 tV, .int .i64 yV, .slice none 0 0] 24)).heap.size (((w.alloc (.cells #[.int .i64 0, .int .i64 0, .int .i64 0, .int .i64 0, .slice none 0 0] 24)).alloc (.cells #[.int .i64 0, .int .i64 0, .int .i64 0, .int .i64 0, .slice none 0 0] 24)).alloc (.cells #[.int .i64 dV, .int .i64 sV, .int .i64 tV, .int .i64 yV, .slice none 0 0] 24)) ((((w.alloc (.cells #[.int .i64 0, .int .i64 0, .int .i64 0, .int .i64 0, .slice none 0 0] 24)).alloc (.cells #[.int .i64 0, .int .i64 0, .int .i64 0, .int .i64 0, .slice none 0 0] 24)).alloc (.cells #[.int .i64 dV, .int .i64 sV, .int .i64 tV, .int .i64 yV, .slice none 0 0] 24)).alloc (.cells #[] 5))) := BE
  have hlb : n - 18 ≤ 1500 := by omega
  clear hbl HB O0 hrB BE
  go_enter Try.func23, Try.ntmps23
  go_wp2_with (first | (at_builtin; refine wpList_app rfl (.tmp 81) (.tmp 88) rfl _ _ [] (body l) rfl HOO.out (some ⟨b, off + 18, none⟩) b (off + 18) (cap - 18) (by rw [HBL.out]; rfl) HRB.out (by rw [HBL.out]; simp; omega) (by simp) ?_; intro v5 w5 hown hgrow; have hb5 := below_own HOO.out HBE.out (by omega) hgrow; have W5 := HRB.out; obtain ⟨g5, cap5, hv5, hg5, hw5⟩ := hasI_form hown (by simpa using W5.size) (by simpa using W5.byt); simp only [List.nil_append] at hv5 hw5; rw [HBL.out] at hv5; subst hv5; clear W5 hown hgrow; replace kr := (hb5.block _ (by omega)).trans kr; replace kn := (hb5.block _ (by omega)).trans kn; replace kp := (hb5.block _ (by omega)).trans kp; replace B3 := next B3 hb5; have z5 := hb5.size; clear hb5; obtain ⟨p0, p1, p2, p3, p4⟩ := five kp; have fp := Bl.free kp) | (go_at_call 42; clear tok5; refine (numS _ b off cap 16 2 l _ (HA.out _) (by decide) (by decide) (by have := HN.out; omega) yV Hy.out).mono ?_; rintro e w' ⟨rfl, hw'⟩; replace hw' := hw'.symm; subst hw'; have tok6 : True := trivial) | (go_at_call 42; clear tok4; refine (numS _ b off cap 14 2 l _ (HA.out _) (by decide) (by decide) (by have := HN.out; omega) tV Ht.out).mono ?_; rintro e w' ⟨rfl, hw'⟩; replace hw' := hw'.symm; subst hw'; have tok5 : True := trivial) | (go_at_call 42; clear tok3; refine (numS _ b off cap 6 6 l _ (HA.out _) (by decide) (by decide) (by have := HN.out; omega) sV Hs.out).mono ?_; rintro e w' ⟨rfl, hw'⟩; replace hw' := hw'.symm; subst hw'; have tok4 : True := trivial) | (go_at_call 42; clear tok2; refine (numS _ b off cap 0 6 l _ (HA.out _) (by decide) (by decide) (by have := HN.out; omega) dV Hd.out).mono ?_; rintro e w' ⟨rfl, hw'⟩; replace hw' := hw'.symm; subst hw'; have tok3 : True := trivial) | (go_at_call 41; refine HC.mono ?_; rintro e w' ⟨rfl, hw'⟩; replace hw' := hw'.symm; subst hw'; clear HC) | (go_at_call 42; clear tok1; refine HS.mono ?_; rintro e w' ⟨rfl, hw'⟩; replace hw' := hw'.symm; subst hw'; clear HS; have tok2 : True := trivial) | (go_at_call 42; clear tok0; refine KD.mono ?_; rintro e w' ⟨q, rfl, hw'⟩; replace hw' := hw'.symm; subst hw'; clear KD; have tok1 : True := trivial))
  have kr5 := (set_far (w := w5) (g := w.heap.size) (ad := ⟨w.heap.size + 1 + 1, 4, none⟩) (u := (.slice (some ⟨g5, 0, none⟩) (n - 18) cap5)) (by simp; omega)).trans kr
  have kn5 := (set_far (w := w5) (g := w.heap.size + 1) (ad := ⟨w.heap.size + 1 + 1, 4, none⟩) (u := (.slice (some ⟨g5, 0, none⟩) (n - 18) cap5)) (by simp)).trans kn
  have kp5 := set_four (w := w5) (g := w.heap.size + 1 + 1) (u := (.slice (some ⟨g5, 0, none⟩) (n - 18) cap5)) kp
  have B5 := bset B3 ⟨w.heap.size + 1 + 1, 4, none⟩ (.slice (some ⟨g5, 0, none⟩) (n - 18) cap5) (by simp; omega)
  have hw6 := Tg.wt_set (ad := ⟨w.heap.size + 1 + 1, 4, none⟩) (u := (.slice (some ⟨g5, 0, none⟩) (n - 18) cap5)) hw5 (by simp; omega)
  have z6 : w5.heap.size = (w5.setCell ⟨w.heap.size + 1 + 1, 4, none⟩ (.slice (some ⟨g5, 0, none⟩) (n - 18) cap5)).heap.size := by simp
  clear kr kn kp B3 hw5 p0 p1 p2 p3 p4 fp
  go_wp2_with (go_at_call 10; refine (Pk.specOk_any _ _ _ _ _ _ _ _).mono ?_; rw [hok]; rintro e w6 ⟨rfl, hb⟩; replace kr5 := (hb.block _ (by omega)).trans kr5; replace kn5 := (hb.block _ (by omega)).trans kn5; replace kp5 := (hb.block _ (by omega)).trans kp5; replace B5 := next B5 hb; replace hw6 := hw6.below hb; clear hb z6; obtain ⟨p0, p1, p2, p3, p4⟩ := five kp5; obtain ⟨n0, n1, n2, n3, n4⟩ := five kn5; obtain ⟨r0, r1, r2, r3, r4⟩ := five kr5; have fr := Bl.free kr5)
  refine bodyPost_ret (v := .tuple #[.agg #[.int .i64 0, .int .i64 0, .int .i64 0, .int .i64 0, .slice none 0 0], .int .i64 5]) (by simp [results, Try.results23, go_sem, r0, r1, r2, r3, r4]) rfl ⟨none, w.heap.size, 0, rfl, Wt.nil _ _ _, Nat.le_refl _, fun _ => rfl, ?_⟩
  exact bset (bset (bset (bset (bset B5 _ _ (by simp)) _ _ (by simp)) _ _ (by simp)) _ _ (by simp)) _ _ (by simp)

set_option maxHeartbeats 1000000 in
theorem sp18_0 (b off cap : Nat) (l : List Int) (w : World) (h : Rd w (some ⟨b, off, none⟩) b off l) (hH : hd l = 18) (hK : kind l = 33024) (n : Nat) (hn : l.length = n + 4) (h1 : 18 ≤ n) (h2 : n ≤ 1518) (hcap : l.length ≤ cap) (hsum : sumAt l = Pb.crcI (front l)) (htag : ¬ 4094 < Get.acc l 14 2) (hok : Pk.okB (Get.acc l 0 6) (Get.acc l 6 6) (Get.acc l 14 2) (Get.acc l 16 2) (n - 18) = true) :
    Calls Try.prog 23 #[.slice (some ⟨b, off, none⟩) l.length cap] w (ResC w (Get.acc l 0 6) (Get.acc l 6 6) (Get.acc l 14 2) (Get.acc l 16 2) 0 (body l)) := by
  have B := next (below_alloc1 w (.cells #[.int .i64 0, .int .i64 0, .int .i64 0, .int .i64 0, .slice none 0 0] 24)) (below_alloc1 _ (.cells #[.int .i64 0, .int .i64 0, .int .i64 0, .int .i64 0, .slice none 0 0] 24))
  have hs := h.size
  replace h := h.below B
  have KD := kindSpec_any _ b off cap l _ h
  rw [hK] at KD
  obtain ⟨S, hS⟩ : ∃ S, S = sumAt l := ⟨_, rfl⟩
  obtain ⟨C, hC⟩ : ∃ C, C = Pb.crcI (front l) := ⟨_, rfl⟩
  have HS := sumS _ b off cap n l _ h hn S hS
  have HC := crcFrontS b off cap n l _ h hn C hC
  have hmn : (l.length : Int) - 4 = (n : Int) := by omega
  have hq : ¬ ((l.length : Int) < 22) := by omega
  have hq2 : ¬ ((1522 : Int) < (l.length : Int)) := by omega
  have hnc : (n : Int) ≤ (cap : Int) := by omega
  have hn0 : (0 : Int) ≤ (n : Int) := by omega
  have hnH : (18 : Int) ≤ (n : Int) := by omega
  have hsc : S = C := by rw [hS, hC]; exact hsum
  have HB : Hid (body l = (l.drop 18).take (n - 18)) := by unfold Hid body; rw [hH, hn]; rfl
  obtain ⟨dV, hdV⟩ : ∃ V, V = Get.acc l 0 6 := ⟨_, rfl⟩
  obtain ⟨sV, hsV⟩ : ∃ V, V = Get.acc l 6 6 := ⟨_, rfl⟩
  obtain ⟨yV, hyV⟩ : ∃ V, V = Get.acc l 16 2 := ⟨_, rfl⟩
  obtain ⟨tV, htV⟩ : ∃ V, V = Get.acc l 14 2 := ⟨_, rfl⟩
  rw [← hdV, ← hsV, ← hyV, ← htV]
  rw [← hdV, ← hsV, ← hyV, ← htV] at hok
  rw [← htV] at htag
  have Hd : Hid (dV = Get.acc l 0 6) := hdV
  have Hs : Hid (sV = Get.acc l 6 6) := hsV
  have Hy : Hid (yV = Get.acc l 16 2) := hyV
  have Ht : Hid (tV = Get.acc l 14 2) := htV
  clear hdV hsV hyV htV
  subst hsc
  have HA : Hid (∀ o, Rd (((w.alloc (.cells #[.int .i64 0, .int .i64 0, .int .i64 0, .int .i64 0, .slice none 0 0] 24)).alloc (.cells #[.int .i64 0, .int .i64 0, .int .i64 0, .int .i64 0, .slice none 0 0] 24)).alloc o) (some ⟨b, off, none⟩) b off l) := fun o => h.below (below_alloc1 _ _)
  clear hS hC hsum hH
  have HN : Hid (l.length = n + 4) := hn
  clear hn
  have tok0 : True := trivial
  have hbl : (body l).length = n - 18 := by rw [HB.out, List.length_take, List.length_drop, HN.out]; omega
  have HBL : Hid ((body l).length = n - 18) := hbl
  have BE := below_alloc1 (((w.alloc (.cells #[.int .i64 0, .int .i64 0, .int .i64 0, .int .i64 0, .slice none 0 0] 24)).alloc (.cells #[.int .i64 0, .int .i64 0, .int .i64 0, .int .i64 0, .slice none 0 0] 24)).alloc (.cells #[.int .i64 dV, .int .i64 sV, .int .i64 tV, .int .i64 yV, .slice none 0 0] 24)) (.cells #[] 5)
  have z3 : (((w.alloc (.cells #[.int .i64 0, .int .i64 0, .int .i64 0, .int .i64 0, .slice none 0 0] 24)).alloc (.cells #[.int .i64 0, .int .i64 0, .int .i64 0, .int .i64 0, .slice none 0 0] 24)).alloc (.cells #[.int .i64 dV, .int .i64 sV, .int .i64 tV, .int .i64 yV, .slice none 0 0] 24)).heap.size = w.heap.size + 1 + 1 + 1 := by simp
  have O0 := own_empty (((w.alloc (.cells #[.int .i64 0, .int .i64 0, .int .i64 0, .int .i64 0, .slice none 0 0] 24)).alloc (.cells #[.int .i64 0, .int .i64 0, .int .i64 0, .int .i64 0, .slice none 0 0] 24)).alloc (.cells #[.int .i64 dV, .int .i64 sV, .int .i64 tV, .int .i64 yV, .slice none 0 0] 24))
  rw [z3] at O0
  have B3 := next B (below_alloc1 ((w.alloc (.cells #[.int .i64 0, .int .i64 0, .int .i64 0, .int .i64 0, .slice none 0 0] 24)).alloc (.cells #[.int .i64 0, .int .i64 0, .int .i64 0, .int .i64 0, .slice none 0 0] 24)) (.cells #[.int .i64 dV, .int .i64 sV, .int .i64 tV, .int .i64 yV, .slice none 0 0] 24))
  have hrB : Rd ((((w.alloc (.cells #[.int .i64 0, .int .i64 0, .int .i64 0, .int .i64 0, .slice none 0 0] 24)).alloc (.cells #[.int .i64 0, .int .i64 0, .int .i64 0, .int .i64 0, .slice none 0 0] 24)).alloc (.cells #[.int .i64 dV, .int .i64 sV, .int .i64 tV, .int .i64 yV, .slice none 0 0] 24)).alloc (.cells #[] 5)) (some ⟨b, off + 18, none⟩) b (off + 18) (body l) := by rw [HB.out]; exact rd_take (rd_drop ((HA.out _).below BE) _) _
  have HOO : Hid (HasI ((((w.alloc (.cells #[.int .i64 0, .int .i64 0, .int .i64 0, .int .i64 0, .slice none 0 0] 24)).alloc (.cells #[.int .i64 0, .int .i64 0, .int .i64 0, .int .i64 0, .slice none 0 0] 24)).alloc (.cells #[.int .i64 dV, .int .i64 sV, .int .i64 tV, .int .i64 yV, .slice none 0 0] 24)).alloc (.cells #[] 5)) (w.heap.size + 1 + 1 + 1) (.slice (some ⟨w.heap.size + 1 + 1 + 1, 0, none⟩) 0 0) []) := O0
  have HRB : Hid (Rd ((((w.alloc (.cells #[.int .i64 0, .int .i64 0, .int .i64 0, .int .i64 0, .slice none 0 0] 24)).alloc (.cells #[.int .i64 0, .int .i64 0, .int .i64 0, .int .i64 0, .slice none 0 0] 24)).alloc (.cells #[.int .i64 dV, .int .i64 sV, .int .i64 tV, .int .i64 yV, .slice none 0 0] 24)).alloc (.cells #[] 5)) (some ⟨b, off + 18, none⟩) b (off + 18) (body l)) := hrB
  have kr : (((w.alloc (.cells #[.int .i64 0, .int .i64 0, .int .i64 0, .int .i64 0, .slice none 0 0] 24)).alloc (.cells #[.int .i64 0, .int .i64 0, .int .i64 0, .int .i64 0, .slice none 0 0] 24)).alloc (.cells #[.int .i64 dV, .int .i64 sV, .int .i64 tV, .int .i64 yV, .slice none 0 0] 24)).heap[w.heap.size]? = some (.cells #[.int .i64 0, .int .i64 0, .int .i64 0, .int .i64 0, .slice none 0 0] 24 (0, 0)) := by rw [at_old (by simp; omega), at_old (by simp), at_new rfl]
  have kn : (((w.alloc (.cells #[.int .i64 0, .int .i64 0, .int .i64 0, .int .i64 0, .slice none 0 0] 24)).alloc (.cells #[.int .i64 0, .int .i64 0, .int .i64 0, .int .i64 0, .slice none 0 0] 24)).alloc (.cells #[.int .i64 dV, .int .i64 sV, .int .i64 tV, .int .i64 yV, .slice none 0 0] 24)).heap[w.heap.size + 1]? = some (.cells #[.int .i64 0, .int .i64 0, .int .i64 0, .int .i64 0, .slice none 0 0] 24 (0, 0)) := by rw [at_old (by simp), at_new (by simp)]
  have kp : (((w.alloc (.cells #[.int .i64 0, .int .i64 0, .int .i64 0, .int .i64 0, .slice none 0 0] 24)).alloc (.cells #[.int .i64 0, .int .i64 0, .int .i64 0, .int .i64 0, .slice none 0 0] 24)).alloc (.cells #[.int .i64 dV, .int .i64 sV, .int .i64 tV, .int .i64 yV, .slice none 0 0] 24)).heap[w.heap.size + 2]? = some (.cells #[.int .i64 dV, .int .i64 sV, .int .i64 tV, .int .i64 yV, .slice none 0 0] 24 (0, 0)) := by rw [at_new (by simp)]
  have HBE : Hid (Below (((w.alloc (.cells #[.int .i64 0, .int .i64 0, .int .i64 0, .int .i64 0, .slice none 0 0] 24)).alloc (.cells #[.int .i64 0, .int .i64 0, .int .i64 0, .int .i64 0, .slice none 0 0] 24)).alloc (.cells #[.int .i64 dV, .int .i64 sV, .int .i64 tV, .int .i64 yV, .slice none 0 0] 24)).heap.size (((w.alloc (.cells #[.int .i64 0, .int .i64 0, .int .i64 0, .int .i64 0, .slice none 0 0] 24)).alloc (.cells #[.int .i64 0, .int .i64 0, .int .i64 0, .int .i64 0, .slice none 0 0] 24)).alloc (.cells #[.int .i64 dV, .int .i64 sV, .int .i64 tV, .int .i64 yV, .slice none 0 0] 24)) ((((w.alloc (.cells #[.int .i64 0, .int .i64 0, .int .i64 0, .int .i64 0, .slice none 0 0] 24)).alloc (.cells #[.int .i64 0, .int .i64 0, .int .i64 0, .int .i64 0, .slice none 0 0] 24)).alloc (.cells #[.int .i64 dV, .int .i64 sV, .int .i64 tV, .int .i64 yV, .slice none 0 0] 24)).alloc (.cells #[] 5))) := BE
  have hlb : n - 18 ≤ 1500 := by omega
  clear hbl HB O0 hrB BE
  go_enter Try.func23, Try.ntmps23
  go_wp2_with (first | (at_builtin; refine wpList_app rfl (.tmp 81) (.tmp 88) rfl _ _ [] (body l) rfl HOO.out (some ⟨b, off + 18, none⟩) b (off + 18) (cap - 18) (by rw [HBL.out]; rfl) HRB.out (by rw [HBL.out]; simp; omega) (by simp) ?_; intro v5 w5 hown hgrow; have hb5 := below_own HOO.out HBE.out (by omega) hgrow; have W5 := HRB.out; obtain ⟨g5, cap5, hv5, hg5, hw5⟩ := hasI_form hown (by simpa using W5.size) (by simpa using W5.byt); simp only [List.nil_append] at hv5 hw5; rw [HBL.out] at hv5; subst hv5; clear W5 hown hgrow; replace kr := (hb5.block _ (by omega)).trans kr; replace kn := (hb5.block _ (by omega)).trans kn; replace kp := (hb5.block _ (by omega)).trans kp; replace B3 := next B3 hb5; have z5 := hb5.size; clear hb5; obtain ⟨p0, p1, p2, p3, p4⟩ := five kp; have fp := Bl.free kp) | (go_at_call 42; clear tok5; refine (numS _ b off cap 16 2 l _ (HA.out _) (by decide) (by decide) (by have := HN.out; omega) yV Hy.out).mono ?_; rintro e w' ⟨rfl, hw'⟩; replace hw' := hw'.symm; subst hw'; have tok6 : True := trivial) | (go_at_call 42; clear tok4; refine (numS _ b off cap 14 2 l _ (HA.out _) (by decide) (by decide) (by have := HN.out; omega) tV Ht.out).mono ?_; rintro e w' ⟨rfl, hw'⟩; replace hw' := hw'.symm; subst hw'; have tok5 : True := trivial) | (go_at_call 42; clear tok3; refine (numS _ b off cap 6 6 l _ (HA.out _) (by decide) (by decide) (by have := HN.out; omega) sV Hs.out).mono ?_; rintro e w' ⟨rfl, hw'⟩; replace hw' := hw'.symm; subst hw'; have tok4 : True := trivial) | (go_at_call 42; clear tok2; refine (numS _ b off cap 0 6 l _ (HA.out _) (by decide) (by decide) (by have := HN.out; omega) dV Hd.out).mono ?_; rintro e w' ⟨rfl, hw'⟩; replace hw' := hw'.symm; subst hw'; have tok3 : True := trivial) | (go_at_call 41; refine HC.mono ?_; rintro e w' ⟨rfl, hw'⟩; replace hw' := hw'.symm; subst hw'; clear HC) | (go_at_call 42; clear tok1; refine HS.mono ?_; rintro e w' ⟨rfl, hw'⟩; replace hw' := hw'.symm; subst hw'; clear HS; have tok2 : True := trivial) | (go_at_call 42; clear tok0; refine KD.mono ?_; rintro e w' ⟨q, rfl, hw'⟩; replace hw' := hw'.symm; subst hw'; clear KD; have tok1 : True := trivial))
  have kr5 := (set_far (w := w5) (g := w.heap.size) (ad := ⟨w.heap.size + 1 + 1, 4, none⟩) (u := (.slice (some ⟨g5, 0, none⟩) (n - 18) cap5)) (by simp; omega)).trans kr
  have kn5 := (set_far (w := w5) (g := w.heap.size + 1) (ad := ⟨w.heap.size + 1 + 1, 4, none⟩) (u := (.slice (some ⟨g5, 0, none⟩) (n - 18) cap5)) (by simp)).trans kn
  have kp5 := set_four (w := w5) (g := w.heap.size + 1 + 1) (u := (.slice (some ⟨g5, 0, none⟩) (n - 18) cap5)) kp
  have B5 := bset B3 ⟨w.heap.size + 1 + 1, 4, none⟩ (.slice (some ⟨g5, 0, none⟩) (n - 18) cap5) (by simp; omega)
  have hw6 := Tg.wt_set (ad := ⟨w.heap.size + 1 + 1, 4, none⟩) (u := (.slice (some ⟨g5, 0, none⟩) (n - 18) cap5)) hw5 (by simp; omega)
  have z6 : w5.heap.size = (w5.setCell ⟨w.heap.size + 1 + 1, 4, none⟩ (.slice (some ⟨g5, 0, none⟩) (n - 18) cap5)).heap.size := by simp
  clear kr kn kp B3 hw5 p0 p1 p2 p3 p4 fp
  go_wp2_with (go_at_call 10; refine (Pk.specOk_any _ _ _ _ _ _ _ _).mono ?_; rw [hok]; rintro e w6 ⟨rfl, hb⟩; replace kr5 := (hb.block _ (by omega)).trans kr5; replace kn5 := (hb.block _ (by omega)).trans kn5; replace kp5 := (hb.block _ (by omega)).trans kp5; replace B5 := next B5 hb; replace hw6 := hw6.below hb; clear hb z6; obtain ⟨p0, p1, p2, p3, p4⟩ := five kp5; obtain ⟨n0, n1, n2, n3, n4⟩ := five kn5; obtain ⟨r0, r1, r2, r3, r4⟩ := five kr5; have fr := Bl.free kr5)
  refine bodyPost_ret (v := .tuple #[.agg #[.int .i64 dV, .int .i64 sV, .int .i64 tV, .int .i64 yV, (.slice (some ⟨g5, 0, none⟩) (n - 18) cap5)], .int .i64 0]) (by simp [results, Try.results23, go_sem, r0, r1, r2, r3, r4]) rfl ⟨some ⟨g5, 0, none⟩, g5, cap5, by rw [HBL.out], ?_, by omega, by simp, ?_⟩
  · exact Tg.wt_set (Tg.wt_set (Tg.wt_set (Tg.wt_set (Tg.wt_set hw6 (by simp; omega)) (by simp; omega)) (by simp; omega)) (by simp; omega)) (by simp; omega)
  · exact bset (bset (bset (bset (bset B5 _ _ (by simp)) _ _ (by simp)) _ _ (by simp)) _ _ (by simp)) _ _ (by simp)

end Go.Proofs.Ytdhidobaghgikaa.Pr
