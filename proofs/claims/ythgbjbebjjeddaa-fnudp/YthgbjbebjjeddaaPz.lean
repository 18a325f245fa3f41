/-
  The contract of PacketRead where it reads a packet, with the room of what it hands back.
-/
import Derived.Test.YthgbjbebjjeddaaPc
import Derived.Test.YthgbjbebjjeddaaHp
import Derived.Deep.RegionWith
namespace Go.Proofs.Ythgbjbebjjeddaa.Pz
open Go Go.RowKit
open Num Rw Mk Un Put Pl App Pf Pr
set_option maxRecDepth 4000

def CopyR (w : World) (l : List Int) (e : Ending) (w' : World) : Prop :=
  ∃ a g cap, e = .returned (.slice a l.length cap) ∧ Wt w' a g l ∧ w.heap.size ≤ g ∧ ((a = none → cap = 0) ∧ l.length ≤ cap) ∧ Below w.heap.size w w'
theorem cloneR (ad : Addr) (b off cap m : Nat) (l : List Int) (w : World) (h : Rd w (some ad) b off l) (hm : l.length = m) : Calls Try.prog 54 #[.slice (some ad) m cap] w (CopyR w l) := by
  refine (Hp.clone_room ad b off cap m l w h hm).mono ?_
  rintro e w' ⟨g, c, rfl, hw, hc, hg, hb⟩
  exact ⟨some ⟨g, 0, none⟩, g, c, by rw [hm], hw, hg, ⟨by simp, by omega⟩, hb⟩
/-- A packet is handed back, the body in memory of its own, with its room. -/
def ReadsR (w : World) (d s t y : Int) (l : List Int) (e : Ending) (w' : World) : Prop :=
  ∃ a g cap, e = .returned (.agg #[.int .i64 d, .int .i64 s, .int .i64 t, .int .i64 y, .slice a l.length cap]) ∧ Wt w' a g l ∧ w.heap.size ≤ g ∧ ((a = none → cap = 0) ∧ l.length ≤ cap) ∧ Below w.heap.size w w'
def ResR (w : World) (d s t y c : Int) (l : List Int) (e : Ending) (w' : World) : Prop :=
  ∃ a g cap, e = .returned (.tuple #[.agg #[.int .i64 d, .int .i64 s, .int .i64 t, .int .i64 y, .slice a l.length cap], .int .i64 c]) ∧ Wt w' a g l ∧ w.heap.size ≤ g ∧ ((a = none → cap = 0) ∧ l.length ≤ cap) ∧ Below w.heap.size w w'

set_option maxHeartbeats 400000 in
theorem rp14_0 (b off cap : Nat) (l : List Int) (w : World) (h : Rd w (some ⟨b, off, none⟩) b off l) (hH : hd l = 14) (n : Nat) (hn : l.length = n + 4) (h1 : 14 ≤ n) (h2 : n ≤ 1514) (hcap : l.length ≤ cap) (hsum : sumAt l = Pb.crcI (front l)) (htyp : Pk.typB (Get.acc l 12 2) = true) :
    Calls Try.prog 50 #[.slice (some ⟨b, off, none⟩) l.length cap] w (ReadsR w (Get.acc l 0 6) (Get.acc l 6 6) (-1) (Get.acc l 12 2) (body l)) := by
  have B := below_alloc1 w (.cells #[.int .i64 0, .int .i64 0, .int .i64 0, .int .i64 0, .slice none 0 0] 28)
  have hs := h.size
  have k0 : (w.alloc (.cells #[.int .i64 0, .int .i64 0, .int .i64 0, .int .i64 0, .slice none 0 0] 28)).heap[w.heap.size]? = some (.cells #[.int .i64 0, .int .i64 0, .int .i64 0, .int .i64 0, .slice none 0 0] 28 (0, 0)) := at_new rfl
  have z0 : w.heap.size < (w.alloc (.cells #[.int .i64 0, .int .i64 0, .int .i64 0, .int .i64 0, .slice none 0 0] 28)).heap.size := by simp
  replace h := h.below B
  have hD := h.below ((Below.refl _ _).drew)
  have HD := head_any _ b off cap l _ h
  rw [hH] at HD
  obtain ⟨S, hS⟩ : ∃ S, S = sumAt l := ⟨_, rfl⟩
  obtain ⟨C, hC⟩ : ∃ C, C = Pb.crcI (front l) := ⟨_, rfl⟩
  have HS := sumCall _ b off cap n l _ hD hn S hS
  have hmn : (l.length : Int) - 4 = (n : Int) := by omega
  have hq : (14 : Int) ≤ (n : Int) := by omega
  have hq2 : (n : Int) ≤ 1514 := by omega
  have hnc : (n : Int) ≤ (cap : Int) := by omega
  have hn0 : (0 : Int) ≤ (n : Int) := by omega
  have hsc : S = C := by rw [hS, hC]; exact hsum
  have HSS : Hid (S = sumAt l) := hS
  have HCC : Hid (C = Pb.crcI (front l)) := hC
  have HB : Hid (body l = (l.drop 14).take (n - 14)) := by unfold Hid body; rw [hH, hn]; rfl
  obtain ⟨dV, hdV⟩ : ∃ V, V = Get.acc l 0 6 := ⟨_, rfl⟩
  obtain ⟨sV, hsV⟩ : ∃ V, V = Get.acc l 6 6 := ⟨_, rfl⟩
  obtain ⟨yV, hyV⟩ : ∃ V, V = Get.acc l 12 2 := ⟨_, rfl⟩
  rw [← hdV, ← hsV, ← hyV]
  rw [← hyV] at htyp
  have Hd : Hid (dV = Get.acc l 0 6) := hdV
  have Hs : Hid (sV = Get.acc l 6 6) := hsV
  have Hy : Hid (yV = Get.acc l 12 2) := hyV
  clear hdV hsV hyV
  subst hsc
  clear hS hC hsum hH hD
  have HN : Hid (l.length = n + 4) := hn
  clear hn
  go_enter Try.func50, Try.ntmps50
  go_wp2_with (first | (go_at_call 86; refine HD.mono ?_; rintro e w' ⟨rfl, hw'⟩; replace hw' := hw'.symm; subst hw'; clear HD) | (go_at_call 87; refine (demY _ _ _ (by first | rfl | (simp; omega))).mono ?_; rintro e w' ⟨rfl, hw'⟩; replace hw' := hw'.symm; subst hw'))
  go_region_with (first | (go_at_call 48; refine (crcFront _ _ _ _ _ _ (h.below ((Below.refl _ _).drew)) HN.out _ HCC.out).mono ?_; rintro e w5 ⟨rfl, hb5⟩; have h5 := (h.below ((Below.refl _ _).drew)).below hb5; have B5 := next (next B ((Below.refl _ _).drew)) hb5) | (go_at_call 53; refine (sumCall _ _ _ _ _ _ _ h5 HN.out _ HSS.out).mono ?_; rintro e w6 ⟨rfl, hw6⟩; replace hw6 := hw6.symm; subst hw6) | (go_at_call 53; refine HS.mono ?_; rintro e w6 ⟨rfl, hw6⟩; replace hw6 := hw6.symm; subst hw6) | (go_at_call 87; refine (demY _ _ _ (by first | rfl | simp)).mono ?_; rintro e w7 ⟨rfl, hw7⟩; replace hw7 := hw7.symm; subst hw7))
  have sz5 := hb5.size
  have z5 : w.heap.size < w5.heap.size := Nat.lt_of_lt_of_le z0 hb5.size
  have k5 := (hb5.block _ z0).trans k0
  have BA : ∀ o, Below w5.heap.size w5 (w5.alloc o) := fun o => below_alloc1 _ _
  have HA : Hid (∀ o, Rd (w5.alloc o) (some ⟨b, off, none⟩) b off l) := fun o => h5.below (below_alloc1 _ _)
  have tok0 : True := trivial
  clear HS k0 z0 BA
  all_goals go_wp2_with (first | (go_at_call 53; clear tok0; refine (numCall _ b off cap 0 6 l _ h5 (by decide) (by decide) (by have := HN.out; omega) dV Hd.out).mono ?_; rintro e w6 ⟨rfl, hw6⟩; replace hw6 := hw6.symm; subst hw6; have tok1 : True := trivial) | (go_at_call 53; clear tok1; refine (numCall _ b off cap 6 6 l _ h5 (by decide) (by decide) (by have := HN.out; omega) sV Hs.out).mono ?_; rintro e w6 ⟨rfl, hw6⟩; replace hw6 := hw6.symm; subst hw6; have tok2 : True := trivial) | (go_at_call 53; clear tok2; refine (numCall _ b off cap 12 2 l _ h5 (by decide) (by decide) (by have := HN.out; omega) yV Hy.out).mono ?_; rintro e w6 ⟨rfl, hw6⟩; replace hw6 := hw6.symm; subst hw6; have tok3 : True := trivial) | (go_at_call 82; refine (Pk.tag_any _ _).mono ?_; rw [show Pk.tagB (-1) = true from rfl]; rintro e w6 ⟨rfl, hw6⟩; replace hw6 := hw6.symm; subst hw6) | (go_at_call 87; clear tok3; refine (demY _ _ _ rfl).mono ?_; rintro e w6 ⟨rfl, hw6⟩; replace hw6 := hw6.symm; subst hw6; have tok4 : True := trivial) | (go_at_call 83; refine (Pk.typ_any _ _).mono ?_; rw [htyp]; rintro e w6 ⟨rfl, hw6⟩; replace hw6 := hw6.symm; subst hw6) | (go_at_call 87; clear tok4; refine (demY _ _ _ rfl).mono ?_; rintro e w6 ⟨rfl, hw6⟩; replace hw6 := hw6.symm; subst hw6; have tok5 : True := trivial))
  have hbl : (body l).length = n - 14 := by rw [HB.out, List.length_take, List.length_drop, HN.out]; omega
  have hrB : Rd (w5.alloc (.cells #[.int .i64 dV, .int .i64 sV, .int .i64 (-1), .int .i64 yV, .slice none 0 0] 28)) (some ⟨b, off + 14, none⟩) b (off + 14) (body l) := by rw [HB.out]; exact rd_take (rd_drop (HA.out _) _) _
  have kA : (w5.alloc (.cells #[.int .i64 dV, .int .i64 sV, .int .i64 (-1), .int .i64 yV, .slice none 0 0] 28)).heap[w5.heap.size]? = some (.cells #[.int .i64 dV, .int .i64 sV, .int .i64 (-1), .int .i64 yV, .slice none 0 0] 28 (0, 0)) := at_new rfl
  have zA : w5.heap.size < (w5.alloc (.cells #[.int .i64 dV, .int .i64 sV, .int .i64 (-1), .int .i64 yV, .slice none 0 0] 28)).heap.size := by simp
  replace k5 := ((below_alloc1 w5 (.cells #[.int .i64 dV, .int .i64 sV, .int .i64 (-1), .int .i64 yV, .slice none 0 0] 28)).block _ z5).trans k5
  have HBL : Hid ((body l).length = n - 14) := hbl
  clear HB hbl
  go_wp2_with (go_at_call 54; refine (cloneR _ _ _ _ _ (body l) _ hrB HBL.out).mono ?_; rintro e w8 ⟨a8, g8, c8, he8, hw8, hg8, hc8, hb8⟩; rw [HBL.out] at he8; subst he8; replace kA := (hb8.block _ zA).trans kA; replace k5 := (hb8.block _ (Nat.lt_trans z5 zA)).trans k5; obtain ⟨x0, x1, x2, x3, x4⟩ := five kA; obtain ⟨y0, y1, y2, y3, y4⟩ := five k5; have fA := Bl.free kA; have f5 := Bl.free k5)
  refine bodyPost_ret (v := .agg #[.int .i64 dV, .int .i64 sV, .int .i64 (-1), .int .i64 yV, .slice a8 (n - 14) c8]) (by simp [results, Try.results50, go_sem, y0, y1, y2, y3, y4]) rfl ⟨a8, g8, c8, by rw [HBL.out], ?_, by simp at hg8; omega, hc8, ?_⟩
  · simp at hg8
    exact Tg.wt_set (Tg.wt_set (Tg.wt_set (Tg.wt_set (Tg.wt_set (Tg.wt_set hw8 (by simp; omega)) (by simp; omega)) (by simp; omega)) (by simp; omega)) (by simp; omega)) (by simp; omega)
  · exact (((((((next (next B5 (below_alloc1 _ _)) hb8).setCell (by simp; omega) _).setCell (by simp) _).setCell (by simp) _).setCell (by simp) _).setCell (by simp) _).setCell (by simp) _)

set_option maxHeartbeats 400000 in
theorem rp18_0 (b off cap : Nat) (l : List Int) (w : World) (h : Rd w (some ⟨b, off, none⟩) b off l) (hH : hd l = 18) (n : Nat) (hn : l.length = n + 4) (h1 : 18 ≤ n) (h2 : n ≤ 1518) (hcap : l.length ≤ cap) (hsum : sumAt l = Pb.crcI (front l)) (htag : Pk.tagB (Get.acc l 14 2) = true) (htyp : Pk.typB (Get.acc l 16 2) = true) :
    Calls Try.prog 50 #[.slice (some ⟨b, off, none⟩) l.length cap] w (ReadsR w (Get.acc l 0 6) (Get.acc l 6 6) (Get.acc l 14 2) (Get.acc l 16 2) (body l)) := by
  have B := below_alloc1 w (.cells #[.int .i64 0, .int .i64 0, .int .i64 0, .int .i64 0, .slice none 0 0] 28)
  have hs := h.size
  have k0 : (w.alloc (.cells #[.int .i64 0, .int .i64 0, .int .i64 0, .int .i64 0, .slice none 0 0] 28)).heap[w.heap.size]? = some (.cells #[.int .i64 0, .int .i64 0, .int .i64 0, .int .i64 0, .slice none 0 0] 28 (0, 0)) := at_new rfl
  have z0 : w.heap.size < (w.alloc (.cells #[.int .i64 0, .int .i64 0, .int .i64 0, .int .i64 0, .slice none 0 0] 28)).heap.size := by simp
  replace h := h.below B
  have hD := h.below ((Below.refl _ _).drew)
  have HD := head_any _ b off cap l _ h
  rw [hH] at HD
  obtain ⟨S, hS⟩ : ∃ S, S = sumAt l := ⟨_, rfl⟩
  obtain ⟨C, hC⟩ : ∃ C, C = Pb.crcI (front l) := ⟨_, rfl⟩
  have HS := sumCall _ b off cap n l _ hD hn S hS
  have hmn : (l.length : Int) - 4 = (n : Int) := by omega
  have hq : (18 : Int) ≤ (n : Int) := by omega
  have hq2 : (n : Int) ≤ 1518 := by omega
  have hnc : (n : Int) ≤ (cap : Int) := by omega
  have hn0 : (0 : Int) ≤ (n : Int) := by omega
  have hsc : S = C := by rw [hS, hC]; exact hsum
  have HSS : Hid (S = sumAt l) := hS
  have HCC : Hid (C = Pb.crcI (front l)) := hC
  have HB : Hid (body l = (l.drop 18).take (n - 18)) := by unfold Hid body; rw [hH, hn]; rfl
  obtain ⟨dV, hdV⟩ : ∃ V, V = Get.acc l 0 6 := ⟨_, rfl⟩
  obtain ⟨sV, hsV⟩ : ∃ V, V = Get.acc l 6 6 := ⟨_, rfl⟩
  obtain ⟨yV, hyV⟩ : ∃ V, V = Get.acc l 16 2 := ⟨_, rfl⟩
  obtain ⟨tV, htV⟩ : ∃ V, V = Get.acc l 14 2 := ⟨_, rfl⟩
  rw [← hdV, ← hsV, ← hyV, ← htV]
  rw [← htV] at htag
  rw [← hyV] at htyp
  have Hd : Hid (dV = Get.acc l 0 6) := hdV
  have Hs : Hid (sV = Get.acc l 6 6) := hsV
  have Hy : Hid (yV = Get.acc l 16 2) := hyV
  have Ht : Hid (tV = Get.acc l 14 2) := htV
  clear hdV hsV hyV htV
  subst hsc
  clear hS hC hsum hH hD
  have HN : Hid (l.length = n + 4) := hn
  clear hn
  go_enter Try.func50, Try.ntmps50
  go_wp2_with (first | (go_at_call 86; refine HD.mono ?_; rintro e w' ⟨rfl, hw'⟩; replace hw' := hw'.symm; subst hw'; clear HD) | (go_at_call 87; refine (demY _ _ _ (by first | rfl | (simp; omega))).mono ?_; rintro e w' ⟨rfl, hw'⟩; replace hw' := hw'.symm; subst hw'))
  go_region_with (first | (go_at_call 48; refine (crcFront _ _ _ _ _ _ (h.below ((Below.refl _ _).drew)) HN.out _ HCC.out).mono ?_; rintro e w5 ⟨rfl, hb5⟩; have h5 := (h.below ((Below.refl _ _).drew)).below hb5; have B5 := next (next B ((Below.refl _ _).drew)) hb5) | (go_at_call 53; refine (sumCall _ _ _ _ _ _ _ h5 HN.out _ HSS.out).mono ?_; rintro e w6 ⟨rfl, hw6⟩; replace hw6 := hw6.symm; subst hw6) | (go_at_call 53; refine HS.mono ?_; rintro e w6 ⟨rfl, hw6⟩; replace hw6 := hw6.symm; subst hw6) | (go_at_call 87; refine (demY _ _ _ (by first | rfl | simp)).mono ?_; rintro e w7 ⟨rfl, hw7⟩; replace hw7 := hw7.symm; subst hw7))
  have sz5 := hb5.size
  have z5 : w.heap.size < w5.heap.size := Nat.lt_of_lt_of_le z0 hb5.size
  have k5 := (hb5.block _ z0).trans k0
  have BA : ∀ o, Below w5.heap.size w5 (w5.alloc o) := fun o => below_alloc1 _ _
  have HA : Hid (∀ o, Rd (w5.alloc o) (some ⟨b, off, none⟩) b off l) := fun o => h5.below (below_alloc1 _ _)
  have tok0 : True := trivial
  clear HS k0 z0 BA
  all_goals go_wp2_with (first | (go_at_call 53; clear tok0; refine (numCall _ b off cap 0 6 l _ h5 (by decide) (by decide) (by have := HN.out; omega) dV Hd.out).mono ?_; rintro e w6 ⟨rfl, hw6⟩; replace hw6 := hw6.symm; subst hw6; have tok1 : True := trivial) | (go_at_call 53; clear tok1; refine (numCall _ b off cap 6 6 l _ h5 (by decide) (by decide) (by have := HN.out; omega) sV Hs.out).mono ?_; rintro e w6 ⟨rfl, hw6⟩; replace hw6 := hw6.symm; subst hw6; have tok2 : True := trivial) | (go_at_call 53; clear tok2; refine (numCall _ b off cap 16 2 l _ h5 (by decide) (by decide) (by have := HN.out; omega) yV Hy.out).mono ?_; rintro e w6 ⟨rfl, hw6⟩; replace hw6 := hw6.symm; subst hw6; have tok3 : True := trivial) | (go_at_call 53; clear tok3; refine (numCall _ b off cap 14 2 l _ (HA.out _) (by decide) (by decide) (by have := HN.out; omega) tV Ht.out).mono ?_; rintro e w6 ⟨rfl, hw6⟩; replace hw6 := hw6.symm; subst hw6; have tok4 : True := trivial) | (go_at_call 82; refine (Pk.tag_any _ _).mono ?_; rw [htag]; rintro e w6 ⟨rfl, hw6⟩; replace hw6 := hw6.symm; subst hw6) | (go_at_call 87; clear tok4; refine (demY _ _ _ rfl).mono ?_; rintro e w6 ⟨rfl, hw6⟩; replace hw6 := hw6.symm; subst hw6; have tok5 : True := trivial) | (go_at_call 83; refine (Pk.typ_any _ _).mono ?_; rw [htyp]; rintro e w6 ⟨rfl, hw6⟩; replace hw6 := hw6.symm; subst hw6) | (go_at_call 87; clear tok5; refine (demY _ _ _ rfl).mono ?_; rintro e w6 ⟨rfl, hw6⟩; replace hw6 := hw6.symm; subst hw6; have tok6 : True := trivial))
  have hbl : (body l).length = n - 18 := by rw [HB.out, List.length_take, List.length_drop, HN.out]; omega
  have hrB : Rd (w5.alloc (.cells #[.int .i64 dV, .int .i64 sV, .int .i64 tV, .int .i64 yV, .slice none 0 0] 28)) (some ⟨b, off + 18, none⟩) b (off + 18) (body l) := by rw [HB.out]; exact rd_take (rd_drop (HA.out _) _) _
  have kA : (w5.alloc (.cells #[.int .i64 dV, .int .i64 sV, .int .i64 tV, .int .i64 yV, .slice none 0 0] 28)).heap[w5.heap.size]? = some (.cells #[.int .i64 dV, .int .i64 sV, .int .i64 tV, .int .i64 yV, .slice none 0 0] 28 (0, 0)) := at_new rfl
  have zA : w5.heap.size < (w5.alloc (.cells #[.int .i64 dV, .int .i64 sV, .int .i64 tV, .int .i64 yV, .slice none 0 0] 28)).heap.size := by simp
  replace k5 := ((below_alloc1 w5 (.cells #[.int .i64 dV, .int .i64 sV, .int .i64 tV, .int .i64 yV, .slice none 0 0] 28)).block _ z5).trans k5
  have HBL : Hid ((body l).length = n - 18) := hbl
  clear HB hbl
  go_wp2_with (go_at_call 54; refine (cloneR _ _ _ _ _ (body l) _ hrB HBL.out).mono ?_; rintro e w8 ⟨a8, g8, c8, he8, hw8, hg8, hc8, hb8⟩; rw [HBL.out] at he8; subst he8; replace kA := (hb8.block _ zA).trans kA; replace k5 := (hb8.block _ (Nat.lt_trans z5 zA)).trans k5; obtain ⟨x0, x1, x2, x3, x4⟩ := five kA; obtain ⟨y0, y1, y2, y3, y4⟩ := five k5; have fA := Bl.free kA; have f5 := Bl.free k5)
  refine bodyPost_ret (v := .agg #[.int .i64 dV, .int .i64 sV, .int .i64 tV, .int .i64 yV, .slice a8 (n - 18) c8]) (by simp [results, Try.results50, go_sem, y0, y1, y2, y3, y4]) rfl ⟨a8, g8, c8, by rw [HBL.out], ?_, by simp at hg8; omega, hc8, ?_⟩
  · simp at hg8
    exact Tg.wt_set (Tg.wt_set (Tg.wt_set (Tg.wt_set (Tg.wt_set (Tg.wt_set hw8 (by simp; omega)) (by simp; omega)) (by simp; omega)) (by simp; omega)) (by simp; omega)) (by simp; omega)
  · exact (((((((next (next B5 (below_alloc1 _ _)) hb8).setCell (by simp; omega) _).setCell (by simp) _).setCell (by simp) _).setCell (by simp) _).setCell (by simp) _).setCell (by simp) _)

set_option maxHeartbeats 1000000 in
theorem pread_yes (a : Option Addr) (b off cap : Nat) (l : List Int) (w : World) (h : Rd w a b off l) (d s t y : Int) (L : List Int) (H : ∀ w', Rd w' a b off l → Calls Try.prog 50 #[.slice a l.length cap] w' (ReadsR w' d s t y L)) :
    Calls Try.prog 13 #[.slice a l.length cap] w (ResR w d s t y 0 L) := by
  have hmf : ∀ (fn : Fn) (first cap : Array Value) (w : World), (Instr.makeFunc fn first cap).run Try.prog w = .ok (.func fn first cap) w := fun _ _ _ _ => rfl
  have B := next (below_alloc1 w (.cells #[.int .i64 0, .int .i64 0, .int .i64 0, .int .i64 0, .slice none 0 0] 28)) (below_alloc1 _ (.cells #[.int .i64 0] 3))
  have H1 := H _ (h.below B)
  have k0 : ((w.alloc (.cells #[.int .i64 0, .int .i64 0, .int .i64 0, .int .i64 0, .slice none 0 0] 28)).alloc (.cells #[.int .i64 0] 3)).heap[w.heap.size]? = some (.cells #[.int .i64 0, .int .i64 0, .int .i64 0, .int .i64 0, .slice none 0 0] 28 (0, 0)) := by rw [at_old (by simp), at_new rfl]
  have k1 : ((w.alloc (.cells #[.int .i64 0, .int .i64 0, .int .i64 0, .int .i64 0, .slice none 0 0] 28)).alloc (.cells #[.int .i64 0] 3)).heap[w.heap.size + 1]? = some (.cells #[.int .i64 0] 3 (0, 0)) := by rw [at_new (by simp)]
  clear h H
  go_enter_defers Try.func13, Try.ntmps13
  go_wp2_with (go_at_call 50; refine H1.mono ?_; rintro e w1 ⟨a1, g1, c1, rfl, hw1, hg1, hc1, hb⟩; replace k0 := (hb.block _ (by simp; omega)).trans k0; replace k1 := (hb.block _ (by simp)).trans k1; replace B := next B hb; obtain ⟨x0, x1, x2, x3, x4⟩ := five k0; have d0 : w1.cell? ⟨w.heap.size + 1, 0, none⟩ = some (.int .i64 0) := (by simpa using Bl.cell k1 0); have f0 := Bl.free k0; have f1 := Bl.free k1)
  refine leaves_cons (f := 49) (args := #[.pointer (some ⟨w.heap.size, 0, none⟩), .pointer (some ⟨w.heap.size + 1, 0, none⟩)]) (by simp) (by simp [go_sem]) ?_
  refine (catch_idle ⟨w.heap.size, 0, none⟩ ⟨w.heap.size + 1, 0, none⟩ _).mono ?_
  rintro e u' w'' ⟨rfl, rfl, rfl⟩
  simp at hg1
  have B2 := bset (bset (bset (bset (bset (bset B ⟨w.heap.size, 0, none⟩ (.int .i64 d) (by simp)) ⟨w.heap.size, 1, none⟩ (.int .i64 s) (by simp)) ⟨w.heap.size, 2, none⟩ (.int .i64 t) (by simp)) ⟨w.heap.size, 3, none⟩ (.int .i64 y) (by simp)) ⟨w.heap.size, 4, none⟩ (.slice a1 L.length c1) (by simp)) ⟨w.heap.size + 1, 0, none⟩ (.int .i64 0) (by simp)
  have W2 := Tg.wt_set (ad := ⟨w.heap.size + 1, 0, none⟩) (u := .int .i64 0) (Tg.wt_set (ad := ⟨w.heap.size, 4, none⟩) (u := .slice a1 L.length c1) (Tg.wt_set (ad := ⟨w.heap.size, 3, none⟩) (u := .int .i64 y) (Tg.wt_set (ad := ⟨w.heap.size, 2, none⟩) (u := .int .i64 t) (Tg.wt_set (ad := ⟨w.heap.size, 1, none⟩) (u := .int .i64 s) (Tg.wt_set (ad := ⟨w.heap.size, 0, none⟩) (u := .int .i64 d) hw1 (by simp; omega)) (by simp; omega)) (by simp; omega)) (by simp; omega)) (by simp; omega)) (by simp; omega)
  simp [Leaves, settle, results, Try.results13, go_sem, x0, x1, x2, x3, x4, d0]
  exact ⟨a1, g1, c1, rfl, W2, by omega, hc1, B2⟩

end Go.Proofs.Ythgbjbebjjeddaa.Pz
