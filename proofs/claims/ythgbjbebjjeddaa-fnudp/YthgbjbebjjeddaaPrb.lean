/-
  The contract of readPacket: what it hands back, or the code with which it gives up.
-/
import Derived.Test.YthgbjbebjjeddaaPr
import Derived.Deep.RegionWith
namespace Go.Proofs.Ythgbjbebjjeddaa.Pr
open Go Go.RowKit
open Num Rw Mk Un Put Pl App Pf

theorem front_len {l : List Int} {n : Nat} (h : l.length = n + 4) : (front l).length = n := by unfold front; rw [List.length_take]; omega
theorem crcFront (b off cap n : Nat) (l : List Int) (w : World) (h : Rd w (some ⟨b, off, none⟩) b off l) (hn : l.length = n + 4) (C : Int) (hC : C = Pb.crcI (front l)) :
    Calls Try.prog 48 #[.slice (some ⟨b, off, none⟩) n cap] w fun e w' => e = .returned (.int .i64 C) ∧ Below w.heap.size w w' := by
  have e := front_len hn
  have := Crc.implCrc_any (some ⟨b, off, none⟩) b off cap (front l) w (rd_take h _)
  rw [e] at this
  subst hC
  unfold Pb.crcI
  rw [e]
  exact this
theorem sumCall (a : Option Addr) (b off cap n : Nat) (l : List Int) (w : World) (h : Rd w a b off l) (hn : l.length = n + 4) (S : Int) (hS : S = sumAt l) :
    Calls Try.prog 53 #[.slice a l.length cap, .int .i64 n, .int .i64 4] w fun e w' => e = .returned (.int .i64 S) ∧ w' = w := by
  subst hS
  have e : n = l.length - 4 := by omega
  subst e
  exact numAt_yes a b off cap l (l.length - 4) 4 w h (by decide) (by decide) (by omega)
theorem numCall (a : Option Addr) (b off cap : Nat) (p n : Nat) (l : List Int) (w : World) (h : Rd w a b off l) (h1 : 1 ≤ n) (h6 : n ≤ 6) (hp : p + n ≤ l.length) (V : Int) (hV : V = Get.acc l p n) :
    Calls Try.prog 53 #[.slice a l.length cap, .int .i64 p, .int .i64 n] w fun e w' => e = .returned (.int .i64 V) ∧ w' = w := by
  subst hV
  exact numAt_yes a b off cap l p n w h h1 h6 hp
theorem cloneLen (a : Option Addr) (b off cap m : Nat) (l : List Int) (w : World) (h : Rd w a b off l) (hcap : a = none → cap = 0) (hm : l.length = m) : Calls Try.prog 54 #[.slice a m cap] w (Copy w l) := by
  subst hm
  exact clone_any a b off cap l w h hcap

theorem demY (q : Bool) (c : Int) (w : World) (hq : q = true) : Calls Try.prog 87 #[.bool q, .int .i64 c] w fun e w' => e = .returned (.tuple #[]) ∧ w' = w := by subst hq; exact demand_yes c w
theorem demN (q : Bool) (c : Int) (w : World) (hq : q = false) : Calls Try.prog 87 #[.bool q, .int .i64 c] w fun e w' => e = .panicked [{ v := .iface 86 (.int .i64 c), recovered := false }] ∧ w' = w := by subst hq; exact demand_no c w

/-- It gives up with a code. -/
def Gives (w : World) (c : Int) (e : Ending) (w' : World) : Prop := e = .panicked [{ v := .iface 86 (.int .i64 c), recovered := false }] ∧ Below w.heap.size w w'
/-- It hands a packet back, the body in memory of its own. -/
def Reads (w : World) (d s t y : Int) (l : List Int) (e : Ending) (w' : World) : Prop :=
  ∃ a g cap, e = .returned (.agg #[.int .i64 d, .int .i64 s, .int .i64 t, .int .i64 y, .slice a l.length cap]) ∧ Wt w' a g l ∧ w.heap.size ≤ g ∧ (a = none → cap = 0) ∧ Below w.heap.size w w'

set_option maxHeartbeats 400000 in
theorem rp14_1 (a : Option Addr) (b off cap : Nat) (l : List Int) (w : World) (h : Rd w a b off l) (hH : hd l = 14) (hc : l.length < 18) :
    Calls Try.prog 50 #[.slice a l.length cap] w (Gives w 1) := by
  have B := below_alloc1 w (.cells #[.int .i64 0, .int .i64 0, .int .i64 0, .int .i64 0, .slice none 0 0] 28)
  have hs := h.size
  replace h := h.below B
  have HD := head_any a b off cap l _ h
  rw [hH] at HD
  clear h
  have hq : ¬ ((14 : Int) ≤ (l.length : Int) - 4) := by omega
  go_enter Try.func50, Try.ntmps50
  go_wp2_with (first | (go_at_call 86; refine HD.mono ?_; rintro e w' ⟨rfl, hw'⟩; replace hw' := hw'.symm; subst hw'; clear HD; have tok1 : True := trivial) | (go_at_call 87; clear tok1; refine (demN _ _ _ (by first | rfl | (simp; omega))).mono ?_; rintro e w' ⟨rfl, hw'⟩; replace hw' := hw'.symm; subst hw'))
  exact ⟨rfl, rfl, B⟩

set_option maxHeartbeats 400000 in
theorem rp14_2 (a : Option Addr) (b off cap : Nat) (l : List Int) (w : World) (h : Rd w a b off l) (hH : hd l = 14) (hc : 1518 < l.length) :
    Calls Try.prog 50 #[.slice a l.length cap] w (Gives w 2) := by
  have B := below_alloc1 w (.cells #[.int .i64 0, .int .i64 0, .int .i64 0, .int .i64 0, .slice none 0 0] 28)
  have hs := h.size
  replace h := h.below B
  have HD := head_any a b off cap l _ h
  rw [hH] at HD
  clear h
  have hq : (14 : Int) ≤ (l.length : Int) - 4 := by omega
  have hq2 : ¬ ((l.length : Int) - 4 ≤ 1514) := by omega
  go_enter Try.func50, Try.ntmps50
  go_wp2_with (first | (go_at_call 86; refine HD.mono ?_; rintro e w' ⟨rfl, hw'⟩; replace hw' := hw'.symm; subst hw'; clear HD; have tok1 : True := trivial) | (go_at_call 87; clear tok1; refine (demY _ _ _ (by first | rfl | (simp; omega))).mono ?_; rintro e w' ⟨rfl, hw'⟩; replace hw' := hw'.symm; subst hw'; have tok2 : True := trivial) | (go_at_call 87; clear tok2; refine (demN _ _ _ (by first | rfl | (simp; omega))).mono ?_; rintro e w' ⟨rfl, hw'⟩; replace hw' := hw'.symm; subst hw'))
  exact ⟨rfl, rfl, B⟩

set_option maxHeartbeats 400000 in
theorem rp14_3 (b off cap : Nat) (l : List Int) (w : World) (h : Rd w (some ⟨b, off, none⟩) b off l) (hH : hd l = 14) (n : Nat) (hn : l.length = n + 4) (h1 : 14 ≤ n) (h2 : n ≤ 1514) (hcap : l.length ≤ cap) (hsum : ¬ sumAt l = Pb.crcI (front l)) :
    Calls Try.prog 50 #[.slice (some ⟨b, off, none⟩) l.length cap] w (Gives w 3) := by
  have B := below_alloc1 w (.cells #[.int .i64 0, .int .i64 0, .int .i64 0, .int .i64 0, .slice none 0 0] 28)
  have hs := h.size
  have k0 : (w.alloc (.cells #[.int .i64 0, .int .i64 0, .int .i64 0, .int .i64 0, .slice none 0 0] 28)).heap[w.heap.size]? = some (.cells #[.int .i64 0, .int .i64 0, .int .i64 0, .int .i64 0, .slice none 0 0] 28 (0, 0)) := at_new rfl
  have z0 : w.heap.size < (w.alloc (.cells #[.int .i64 0, .int .i64 0, .int .i64 0, .int .i64 0, .slice none 0 0] 28)).heap.size := by simp
  replace h := h.below B
  have hD := h.below ((Below.refl _ _).drew)
  have HD := head_any _ b off cap l _ h
  rw [hH] at HD
  obtain ⟨S, hS⟩ : ∃ S, S = sumAt l := ⟨_, rfl⟩
  obtain ⟨C, hC⟩ : ∃ C, C = Pb.crcI (front l) := ⟨_, rfl⟩
  have HS := sumCall _ b off cap n l _ hD hn S hS
  have hmn : (l.length : Int) - 4 = (n : Int) := by omega
  have hq : (14 : Int) ≤ (n : Int) := by omega
  have hq2 : (n : Int) ≤ 1514 := by omega
  have hnc : (n : Int) ≤ (cap : Int) := by omega
  have hn0 : (0 : Int) ≤ (n : Int) := by omega
  have hne : (S == C) = false := by rw [hS, hC]; simpa using hsum
  have HSS : Hid (S = sumAt l) := hS
  have HCC : Hid (C = Pb.crcI (front l)) := hC
  clear hS hC hsum hH hD
  have HN : Hid (l.length = n + 4) := hn
  clear hn
  go_enter Try.func50, Try.ntmps50
  go_wp2_with (first | (go_at_call 86; refine HD.mono ?_; rintro e w' ⟨rfl, hw'⟩; replace hw' := hw'.symm; subst hw'; clear HD) | (go_at_call 87; refine (demY _ _ _ (by first | rfl | (simp; omega))).mono ?_; rintro e w' ⟨rfl, hw'⟩; replace hw' := hw'.symm; subst hw'))
  refine wp_region_any (by kernel_rfl) ?_
  change wpAny _ _ _ _ _ _ _ (World.drew _)
  refine wpAny_take (i := 0) (v := .slice (some ⟨b, off, none⟩) l.length cap) rfl (by kernel_rfl) (by kernel_rfl) (by kernel_rfl) (fun _ _ _ h => h) (Or.inl ⟨by rfl, by intro w; go_simp⟩) ?_
  refine wpAny_take (i := 1) (v := .int .i64 n) rfl (by kernel_rfl) (by kernel_rfl) (by kernel_rfl) (fun _ _ _ h => h) (Or.inl ⟨by rfl, by intro w; go_simp⟩) ?_
  refine wpAny_take (i := 3) (v := .slice (some ⟨b, off, none⟩) l.length cap) rfl (by kernel_rfl) (by kernel_rfl) (by kernel_rfl) (fun _ _ _ h => h) (Or.inl ⟨by rfl, by intro w; go_simp⟩) ?_
  refine wpAny_take (i := 4) (v := .int .i64 n) rfl (by kernel_rfl) (by kernel_rfl) (by kernel_rfl) (fun _ _ _ h => h) (Or.inl ⟨by rfl, by intro w; go_simp⟩) ?_
  refine wpAny_take (i := 5) (v := .slice (some ⟨b, off, none⟩) n cap) rfl (by kernel_rfl) (by kernel_rfl) (by kernel_rfl) (fun _ _ _ h => h) (Or.inl ⟨by rfl, by intro w; go_simp⟩) ?_
  refine wpAny_ready (rs := [2]) (by kernel_rfl) (by simp) ?_
  refine AllReady.cons rfl (fun K hK => ?_) AllReady.nil
  · go_simp
    go_wp2_with (go_at_call 53; refine HS.mono ?_; rintro e w6 ⟨rfl, hw6⟩; replace hw6 := hw6.symm; subst hw6)
    (first | (refine hK _ _ ?_; clear hK K) | skip)
    refine wpAny_ready (rs := [6]) (by kernel_rfl) (by simp) ?_
    refine AllReady.cons rfl (fun K hK => ?_) AllReady.nil
    go_simp
    go_wp2_with (go_at_call 48; refine (crcFront _ _ _ _ _ _ (h.below ((Below.refl _ _).drew)) HN.out _ HCC.out).mono ?_; rintro e w5 ⟨rfl, hb5⟩; have h5 := (h.below ((Below.refl _ _).drew)).below hb5; have B5 := next (next B ((Below.refl _ _).drew)) hb5)
    (first | (refine hK _ _ ?_; clear hK K) | skip)
    refine wpAny_take (i := 7) (v := .bool false) rfl (by kernel_rfl) (by kernel_rfl) (by kernel_rfl) (fun _ _ _ h => h) (Or.inl ⟨by rfl, by intro w; go_simp⟩) ?_
    refine wpAny_ready (rs := [8]) (by kernel_rfl) (by simp) ?_
    refine AllReady.cons rfl (fun K hK => ?_) AllReady.nil
    go_simp
    go_wp2_with (go_at_call 87; refine (demN _ _ _ (by first | rfl | exact hne)).mono ?_; rintro e w7 ⟨rfl, hw7⟩; replace hw7 := hw7.symm; subst hw7)
    exact ⟨rfl, rfl, B5⟩

set_option maxHeartbeats 400000 in
theorem rp14_5 (b off cap : Nat) (l : List Int) (w : World) (h : Rd w (some ⟨b, off, none⟩) b off l) (hH : hd l = 14) (n : Nat) (hn : l.length = n + 4) (h1 : 14 ≤ n) (h2 : n ≤ 1514) (hcap : l.length ≤ cap) (hsum : sumAt l = Pb.crcI (front l)) (htyp : Pk.typB (Get.acc l 12 2) = false) :
    Calls Try.prog 50 #[.slice (some ⟨b, off, none⟩) l.length cap] w (Gives w 5) := by
  have B := below_alloc1 w (.cells #[.int .i64 0, .int .i64 0, .int .i64 0, .int .i64 0, .slice none 0 0] 28)
  have hs := h.size
  have k0 : (w.alloc (.cells #[.int .i64 0, .int .i64 0, .int .i64 0, .int .i64 0, .slice none 0 0] 28)).heap[w.heap.size]? = some (.cells #[.int .i64 0, .int .i64 0, .int .i64 0, .int .i64 0, .slice none 0 0] 28 (0, 0)) := at_new rfl
  have z0 : w.heap.size < (w.alloc (.cells #[.int .i64 0, .int .i64 0, .int .i64 0, .int .i64 0, .slice none 0 0] 28)).heap.size := by simp
  replace h := h.below B
  have hD := h.below ((Below.refl _ _).drew)
  have HD := head_any _ b off cap l _ h
  rw [hH] at HD
  obtain ⟨S, hS⟩ : ∃ S, S = sumAt l := ⟨_, rfl⟩
  obtain ⟨C, hC⟩ : ∃ C, C = Pb.crcI (front l) := ⟨_, rfl⟩
  have HS := sumCall _ b off cap n l _ hD hn S hS
  have hmn : (l.length : Int) - 4 = (n : Int) := by omega
  have hq : (14 : Int) ≤ (n : Int) := by omega
  have hq2 : (n : Int) ≤ 1514 := by omega
  have hnc : (n : Int) ≤ (cap : Int) := by omega
  have hn0 : (0 : Int) ≤ (n : Int) := by omega
  have hsc : S = C := by rw [hS, hC]; exact hsum
  have HSS : Hid (S = sumAt l) := hS
  have HCC : Hid (C = Pb.crcI (front l)) := hC
  have HB : Hid (body l = (l.drop 14).take (n - 14)) := by unfold Hid body; rw [hH, hn]; rfl
  obtain ⟨dV, hdV⟩ : ∃ V, V = Get.acc l 0 6 := ⟨_, rfl⟩
  obtain ⟨sV, hsV⟩ : ∃ V, V = Get.acc l 6 6 := ⟨_, rfl⟩
  obtain ⟨yV, hyV⟩ : ∃ V, V = Get.acc l 12 2 := ⟨_, rfl⟩
  rw [← hyV] at htyp
  have Hd : Hid (dV = Get.acc l 0 6) := hdV
  have Hs : Hid (sV = Get.acc l 6 6) := hsV
  have Hy : Hid (yV = Get.acc l 12 2) := hyV
  clear hdV hsV hyV
  subst hsc
  clear hS hC hsum hH hD
  have HN : Hid (l.length = n + 4) := hn
  clear hn
  go_enter Try.func50, Try.ntmps50
  go_wp2_with (first | (go_at_call 86; refine HD.mono ?_; rintro e w' ⟨rfl, hw'⟩; replace hw' := hw'.symm; subst hw'; clear HD) | (go_at_call 87; refine (demY _ _ _ (by first | rfl | (simp; omega))).mono ?_; rintro e w' ⟨rfl, hw'⟩; replace hw' := hw'.symm; subst hw'))
  go_region_with (first | (go_at_call 48; refine (crcFront _ _ _ _ _ _ (h.below ((Below.refl _ _).drew)) HN.out _ HCC.out).mono ?_; rintro e w5 ⟨rfl, hb5⟩; have h5 := (h.below ((Below.refl _ _).drew)).below hb5; have B5 := next (next B ((Below.refl _ _).drew)) hb5) | (go_at_call 53; refine (sumCall _ _ _ _ _ _ _ h5 HN.out _ HSS.out).mono ?_; rintro e w6 ⟨rfl, hw6⟩; replace hw6 := hw6.symm; subst hw6) | (go_at_call 53; refine HS.mono ?_; rintro e w6 ⟨rfl, hw6⟩; replace hw6 := hw6.symm; subst hw6) | (go_at_call 87; refine (demY _ _ _ (by first | rfl | simp)).mono ?_; rintro e w7 ⟨rfl, hw7⟩; replace hw7 := hw7.symm; subst hw7))
  have sz5 := hb5.size
  have z5 : w.heap.size < w5.heap.size := Nat.lt_of_lt_of_le z0 hb5.size
  have k5 := (hb5.block _ z0).trans k0
  have BA : ∀ o, Below w5.heap.size w5 (w5.alloc o) := fun o => below_alloc1 _ _
  have HA : Hid (∀ o, Rd (w5.alloc o) (some ⟨b, off, none⟩) b off l) := fun o => h5.below (below_alloc1 _ _)
  have tok0 : True := trivial
  clear HS k0 z0 BA
  all_goals go_wp2_with (first | (go_at_call 53; clear tok0; refine (numCall _ b off cap 0 6 l _ h5 (by decide) (by decide) (by have := HN.out; omega) dV Hd.out).mono ?_; rintro e w6 ⟨rfl, hw6⟩; replace hw6 := hw6.symm; subst hw6; have tok1 : True := trivial) | (go_at_call 53; clear tok1; refine (numCall _ b off cap 6 6 l _ h5 (by decide) (by decide) (by have := HN.out; omega) sV Hs.out).mono ?_; rintro e w6 ⟨rfl, hw6⟩; replace hw6 := hw6.symm; subst hw6; have tok2 : True := trivial) | (go_at_call 53; clear tok2; refine (numCall _ b off cap 12 2 l _ h5 (by decide) (by decide) (by have := HN.out; omega) yV Hy.out).mono ?_; rintro e w6 ⟨rfl, hw6⟩; replace hw6 := hw6.symm; subst hw6; have tok3 : True := trivial) | (go_at_call 82; refine (Pk.tag_any _ _).mono ?_; rw [show Pk.tagB (-1) = true from rfl]; rintro e w6 ⟨rfl, hw6⟩; replace hw6 := hw6.symm; subst hw6) | (go_at_call 87; clear tok3; refine (demY _ _ _ rfl).mono ?_; rintro e w6 ⟨rfl, hw6⟩; replace hw6 := hw6.symm; subst hw6; have tok4 : True := trivial) | (go_at_call 83; refine (Pk.typ_any _ _).mono ?_; rw [htyp]; rintro e w6 ⟨rfl, hw6⟩; replace hw6 := hw6.symm; subst hw6) | (go_at_call 87; clear tok4; refine (demN _ _ _ rfl).mono ?_; rintro e w6 ⟨rfl, hw6⟩; replace hw6 := hw6.symm; subst hw6; have tok5 : True := trivial))
  all_goals exact ⟨rfl, rfl, next B5 (below_alloc1 _ _)⟩

set_option maxHeartbeats 400000 in
theorem rp14_0 (b off cap : Nat) (l : List Int) (w : World) (h : Rd w (some ⟨b, off, none⟩) b off l) (hH : hd l = 14) (n : Nat) (hn : l.length = n + 4) (h1 : 14 ≤ n) (h2 : n ≤ 1514) (hcap : l.length ≤ cap) (hsum : sumAt l = Pb.crcI (front l)) (htyp : Pk.typB (Get.acc l 12 2) = true) :
    Calls Try.prog 50 #[.slice (some ⟨b, off, none⟩) l.length cap] w (Reads w (Get.acc l 0 6) (Get.acc l 6 6) (-1) (Get.acc l 12 2) (body l)) := by
  have B := below_alloc1 w (.cells #[.int .i64 0, .int .i64 0, .int .i64 0, .int .i64 0, .slice none 0 0] 28)
  have hs := h.size
  have k0 : (w.alloc (.cells #[.int .i64 0, .int .i64 0, .int .i64 0, .int .i64 0, .slice none 0 0] 28)).heap[w.heap.size]? = some (.cells #[.int .i64 0, .int .i64 0, .int .i64 0, .int .i64 0, .slice none 0 0] 28 (0, 0)) := at_new rfl
  have z0 : w.heap.size < (w.alloc (.cells #[.int .i64 0, .int .i64 0, .int .i64 0, .int .i64 0, .slice none 0 0] 28)).heap.size := by simp
  replace h := h.below B
  have hD := h.below ((Below.refl _ _).drew)
  have HD := head_any _ b off cap l _ h
  rw [hH] at HD
  obtain ⟨S, hS⟩ : ∃ S, S = sumAt l := ⟨_, rfl⟩
  obtain ⟨C, hC⟩ : ∃ C, C = Pb.crcI (front l) := ⟨_, rfl⟩
  have HS := sumCall _ b off cap n l _ hD hn S hS
  have hmn : (l.length : Int) - 4 = (n : Int) := by omega
  have hq : (14 : Int) ≤ (n : Int) := by omega
  have hq2 : (n : Int) ≤ 1514 := by omega
  have hnc : (n : Int) ≤ (cap : Int) := by omega
  have hn0 : (0 : Int) ≤ (n : Int) := by omega
  have hsc : S = C := by rw [hS, hC]; exact hsum
  have HSS : Hid (S = sumAt l) := hS
  have HCC : Hid (C = Pb.crcI (front l)) := hC
  have HB : Hid (body l = (l.drop 14).take (n - 14)) := by unfold Hid body; rw [hH, hn]; rfl
  obtain ⟨dV, hdV⟩ : ∃ V, V = Get.acc l 0 6 := ⟨_, rfl⟩
  obtain ⟨sV, hsV⟩ : ∃ V, V = Get.acc l 6 6 := ⟨_, rfl⟩
  obtain ⟨yV, hyV⟩ : ∃ V, V = Get.acc l 12 2 := ⟨_, rfl⟩
  rw [← hdV, ← hsV, ← hyV]
  rw [← hyV] at htyp
  have Hd : Hid (dV = Get.acc l 0 6) := hdV
  have Hs : Hid (sV = Get.acc l 6 6) := hsV
  have Hy : Hid (yV = Get.acc l 12 2) := hyV
  clear hdV hsV hyV
  subst hsc
  clear hS hC hsum hH hD
  have HN : Hid (l.length = n + 4) := hn
  clear hn
  go_enter Try.func50, Try.ntmps50
  go_wp2_with (first | (go_at_call 86; refine HD.mono ?_; rintro e w' ⟨rfl, hw'⟩; replace hw' := hw'.symm; subst hw'; clear HD) | (go_at_call 87; refine (demY _ _ _ (by first | rfl | (simp; omega))).mono ?_; rintro e w' ⟨rfl, hw'⟩; replace hw' := hw'.symm; subst hw'))
  go_region_with (first | (go_at_call 48; refine (crcFront _ _ _ _ _ _ (h.below ((Below.refl _ _).drew)) HN.out _ HCC.out).mono ?_; rintro e w5 ⟨rfl, hb5⟩; have h5 := (h.below ((Below.refl _ _).drew)).below hb5; have B5 := next (next B ((Below.refl _ _).drew)) hb5) | (go_at_call 53; refine (sumCall _ _ _ _ _ _ _ h5 HN.out _ HSS.out).mono ?_; rintro e w6 ⟨rfl, hw6⟩; replace hw6 := hw6.symm; subst hw6) | (go_at_call 53; refine HS.mono ?_; rintro e w6 ⟨rfl, hw6⟩; replace hw6 := hw6.symm; subst hw6) | (go_at_call 87; refine (demY _ _ _ (by first | rfl | simp)).mono ?_; rintro e w7 ⟨rfl, hw7⟩; replace hw7 := hw7.symm; subst hw7))
  have sz5 := hb5.size
  have z5 : w.heap.size < w5.heap.size := Nat.lt_of_lt_of_le z0 hb5.size
  have k5 := (hb5.block _ z0).trans k0
  have BA : ∀ o, Below w5.heap.size w5 (w5.alloc o) := fun o => below_alloc1 _ _
  have HA : Hid (∀ o, Rd (w5.alloc o) (some ⟨b, off, none⟩) b off l) := fun o => h5.below (below_alloc1 _ _)
  have tok0 : True := trivial
  clear HS k0 z0 BA
  all_goals go_wp2_with (first | (go_at_call 53; clear tok0; refine (numCall _ b off cap 0 6 l _ h5 (by decide) (by decide) (by have := HN.out; omega) dV Hd.out).mono ?_; rintro e w6 ⟨rfl, hw6⟩; replace hw6 := hw6.symm; subst hw6; have tok1 : True := trivial) | (go_at_call 53; clear tok1; refine (numCall _ b off cap 6 6 l _ h5 (by decide) (by decide) (by have := HN.out; omega) sV Hs.out).mono ?_; rintro e w6 ⟨rfl, hw6⟩; replace hw6 := hw6.symm; subst hw6; have tok2 : True := trivial) | (go_at_call 53; clear tok2; refine (numCall _ b off cap 12 2 l _ h5 (by decide) (by decide) (by have := HN.out; omega) yV Hy.out).mono ?_; rintro e w6 ⟨rfl, hw6⟩; replace hw6 := hw6.symm; subst hw6; have tok3 : True := trivial) | (go_at_call 82; refine (Pk.tag_any _ _).mono ?_; rw [show Pk.tagB (-1) = true from rfl]; rintro e w6 ⟨rfl, hw6⟩; replace hw6 := hw6.symm; subst hw6) | (go_at_call 87; clear tok3; refine (demY _ _ _ rfl).mono ?_; rintro e w6 ⟨rfl, hw6⟩; replace hw6 := hw6.symm; subst hw6; have tok4 : True := trivial) | (go_at_call 83; refine (Pk.typ_any _ _).mono ?_; rw [htyp]; rintro e w6 ⟨rfl, hw6⟩; replace hw6 := hw6.symm; subst hw6) | (go_at_call 87; clear tok4; refine (demY _ _ _ rfl).mono ?_; rintro e w6 ⟨rfl, hw6⟩; replace hw6 := hw6.symm; subst hw6; have tok5 : True := trivial))
  have hbl : (body l).length = n - 14 := by rw [HB.out, List.length_take, List.length_drop, HN.out]; omega
  have hrB : Rd (w5.alloc (.cells #[.int .i64 dV, .int .i64 sV, .int .i64 (-1), .int .i64 yV, .slice none 0 0] 28)) (some ⟨b, off + 14, none⟩) b (off + 14) (body l) := by rw [HB.out]; exact rd_take (rd_drop (HA.out _) _) _
  have kA : (w5.alloc (.cells #[.int .i64 dV, .int .i64 sV, .int .i64 (-1), .int .i64 yV, .slice none 0 0] 28)).heap[w5.heap.size]? = some (.cells #[.int .i64 dV, .int .i64 sV, .int .i64 (-1), .int .i64 yV, .slice none 0 0] 28 (0, 0)) := at_new rfl
  have zA : w5.heap.size < (w5.alloc (.cells #[.int .i64 dV, .int .i64 sV, .int .i64 (-1), .int .i64 yV, .slice none 0 0] 28)).heap.size := by simp
  replace k5 := ((below_alloc1 w5 (.cells #[.int .i64 dV, .int .i64 sV, .int .i64 (-1), .int .i64 yV, .slice none 0 0] 28)).block _ z5).trans k5
  have HBL : Hid ((body l).length = n - 14) := hbl
  clear HB hbl
  go_wp2_with (go_at_call 54; refine (cloneLen _ _ _ _ _ (body l) _ hrB (by simp) HBL.out).mono ?_; rintro e w8 ⟨a8, g8, c8, he8, hw8, hg8, hc8, hb8⟩; rw [HBL.out] at he8; subst he8; replace kA := (hb8.block _ zA).trans kA; replace k5 := (hb8.block _ (Nat.lt_trans z5 zA)).trans k5; obtain ⟨x0, x1, x2, x3, x4⟩ := five kA; obtain ⟨y0, y1, y2, y3, y4⟩ := five k5; have fA := Bl.free kA; have f5 := Bl.free k5)
  refine bodyPost_ret (v := .agg #[.int .i64 dV, .int .i64 sV, .int .i64 (-1), .int .i64 yV, .slice a8 (n - 14) c8]) (by simp [results, Try.results50, go_sem, y0, y1, y2, y3, y4]) rfl ⟨a8, g8, c8, by rw [HBL.out], ?_, by simp at hg8; omega, hc8, ?_⟩
  · simp at hg8
    exact Tg.wt_set (Tg.wt_set (Tg.wt_set (Tg.wt_set (Tg.wt_set (Tg.wt_set hw8 (by simp; omega)) (by simp; omega)) (by simp; omega)) (by simp; omega)) (by simp; omega)) (by simp; omega)
  · exact (((((((next (next B5 (below_alloc1 _ _)) hb8).setCell (by simp; omega) _).setCell (by simp) _).setCell (by simp) _).setCell (by simp) _).setCell (by simp) _).setCell (by simp) _)

set_option maxHeartbeats 400000 in
theorem rp18_1 (a : Option Addr) (b off cap : Nat) (l : List Int) (w : World) (h : Rd w a b off l) (hH : hd l = 18) (hc : l.length < 22) :
    Calls Try.prog 50 #[.slice a l.length cap] w (Gives w 1) := by
  have B := below_alloc1 w (.cells #[.int .i64 0, .int .i64 0, .int .i64 0, .int .i64 0, .slice none 0 0] 28)
  have hs := h.size
  replace h := h.below B
  have HD := head_any a b off cap l _ h
  rw [hH] at HD
  clear h
  have hq : ¬ ((18 : Int) ≤ (l.length : Int) - 4) := by omega
  go_enter Try.func50, Try.ntmps50
  go_wp2_with (first | (go_at_call 86; refine HD.mono ?_; rintro e w' ⟨rfl, hw'⟩; replace hw' := hw'.symm; subst hw'; clear HD; have tok1 : True := trivial) | (go_at_call 87; clear tok1; refine (demN _ _ _ (by first | rfl | (simp; omega))).mono ?_; rintro e w' ⟨rfl, hw'⟩; replace hw' := hw'.symm; subst hw'))
  exact ⟨rfl, rfl, B⟩

set_option maxHeartbeats 400000 in
theorem rp18_2 (a : Option Addr) (b off cap : Nat) (l : List Int) (w : World) (h : Rd w a b off l) (hH : hd l = 18) (hc : 1522 < l.length) :
    Calls Try.prog 50 #[.slice a l.length cap] w (Gives w 2) := by
  have B := below_alloc1 w (.cells #[.int .i64 0, .int .i64 0, .int .i64 0, .int .i64 0, .slice none 0 0] 28)
  have hs := h.size
  replace h := h.below B
  have HD := head_any a b off cap l _ h
  rw [hH] at HD
  clear h
  have hq : (18 : Int) ≤ (l.length : Int) - 4 := by omega
  have hq2 : ¬ ((l.length : Int) - 4 ≤ 1518) := by omega
  go_enter Try.func50, Try.ntmps50
  go_wp2_with (first | (go_at_call 86; refine HD.mono ?_; rintro e w' ⟨rfl, hw'⟩; replace hw' := hw'.symm; subst hw'; clear HD; have tok1 : True := trivial) | (go_at_call 87; clear tok1; refine (demY _ _ _ (by first | rfl | (simp; omega))).mono ?_; rintro e w' ⟨rfl, hw'⟩; replace hw' := hw'.symm; subst hw'; have tok2 : True := trivial) | (go_at_call 87; clear tok2; refine (demN _ _ _ (by first | rfl | (simp; omega))).mono ?_; rintro e w' ⟨rfl, hw'⟩; replace hw' := hw'.symm; subst hw'))
  exact ⟨rfl, rfl, B⟩

set_option maxHeartbeats 400000 in
theorem rp18_3 (b off cap : Nat) (l : List Int) (w : World) (h : Rd w (some ⟨b, off, none⟩) b off l) (hH : hd l = 18) (n : Nat) (hn : l.length = n + 4) (h1 : 18 ≤ n) (h2 : n ≤ 1518) (hcap : l.length ≤ cap) (hsum : ¬ sumAt l = Pb.crcI (front l)) :
    Calls Try.prog 50 #[.slice (some ⟨b, off, none⟩) l.length cap] w (Gives w 3) := by
  have B := below_alloc1 w (.cells #[.int .i64 0, .int .i64 0, .int .i64 0, .int .i64 0, .slice none 0 0] 28)
  have hs := h.size
  have k0 : (w.alloc (.cells #[.int .i64 0, .int .i64 0, .int .i64 0, .int .i64 0, .slice none 0 0] 28)).heap[w.heap.size]? = some (.cells #[.int .i64 0, .int .i64 0, .int .i64 0, .int .i64 0, .slice none 0 0] 28 (0, 0)) := at_new rfl
  have z0 : w.heap.size < (w.alloc (.cells #[.int .i64 0, .int .i64 0, .int .i64 0, .int .i64 0, .slice none 0 0] 28)).heap.size := by simp
  replace h := h.below B
  have hD := h.below ((Below.refl _ _).drew)
  have HD := head_any _ b off cap l _ h
  rw [hH] at HD
  obtain ⟨S, hS⟩ : ∃ S, S = sumAt l := ⟨_, rfl⟩
  obtain ⟨C, hC⟩ : ∃ C, C = Pb.crcI (front l) := ⟨_, rfl⟩
  have HS := sumCall _ b off cap n l _ hD hn S hS
  have hmn : (l.length : Int) - 4 = (n : Int) := by omega
  have hq : (18 : Int) ≤ (n : Int) := by omega
  have hq2 : (n : Int) ≤ 1518 := by omega
  have hnc : (n : Int) ≤ (cap : Int) := by omega
  have hn0 : (0 : Int) ≤ (n : Int) := by omega
  have hne : (S == C) = false := by rw [hS, hC]; simpa using hsum
  have HSS : Hid (S = sumAt l) := hS
  have HCC : Hid (C = Pb.crcI (front l)) := hC
  clear hS hC hsum hH hD
  have HN : Hid (l.length = n + 4) := hn
  clear hn
  go_enter Try.func50, Try.ntmps50
  go_wp2_with (first | (go_at_call 86; refine HD.mono ?_; rintro e w' ⟨rfl, hw'⟩; replace hw' := hw'.symm; subst hw'; clear HD) | (go_at_call 87; refine (demY _ _ _ (by first | rfl | (simp; omega))).mono ?_; rintro e w' ⟨rfl, hw'⟩; replace hw' := hw'.symm; subst hw'))
  refine wp_region_any (by kernel_rfl) ?_
  change wpAny _ _ _ _ _ _ _ (World.drew _)
  refine wpAny_take (i := 0) (v := .slice (some ⟨b, off, none⟩) l.length cap) rfl (by kernel_rfl) (by kernel_rfl) (by kernel_rfl) (fun _ _ _ h => h) (Or.inl ⟨by rfl, by intro w; go_simp⟩) ?_
  refine wpAny_take (i := 1) (v := .int .i64 n) rfl (by kernel_rfl) (by kernel_rfl) (by kernel_rfl) (fun _ _ _ h => h) (Or.inl ⟨by rfl, by intro w; go_simp⟩) ?_
  refine wpAny_take (i := 3) (v := .slice (some ⟨b, off, none⟩) l.length cap) rfl (by kernel_rfl) (by kernel_rfl) (by kernel_rfl) (fun _ _ _ h => h) (Or.inl ⟨by rfl, by intro w; go_simp⟩) ?_
  refine wpAny_take (i := 4) (v := .int .i64 n) rfl (by kernel_rfl) (by kernel_rfl) (by kernel_rfl) (fun _ _ _ h => h) (Or.inl ⟨by rfl, by intro w; go_simp⟩) ?_
  refine wpAny_take (i := 5) (v := .slice (some ⟨b, off, none⟩) n cap) rfl (by kernel_rfl) (by kernel_rfl) (by kernel_rfl) (fun _ _ _ h => h) (Or.inl ⟨by rfl, by intro w; go_simp⟩) ?_
  refine wpAny_ready (rs := [2]) (by kernel_rfl) (by simp) ?_
  refine AllReady.cons rfl (fun K hK => ?_) AllReady.nil
  · go_simp
    go_wp2_with (go_at_call 53; refine HS.mono ?_; rintro e w6 ⟨rfl, hw6⟩; replace hw6 := hw6.symm; subst hw6)
    (first | (refine hK _ _ ?_; clear hK K) | skip)
    refine wpAny_ready (rs := [6]) (by kernel_rfl) (by simp) ?_
    refine AllReady.cons rfl (fun K hK => ?_) AllReady.nil
    go_simp
    go_wp2_with (go_at_call 48; refine (crcFront _ _ _ _ _ _ (h.below ((Below.refl _ _).drew)) HN.out _ HCC.out).mono ?_; rintro e w5 ⟨rfl, hb5⟩; have h5 := (h.below ((Below.refl _ _).drew)).below hb5; have B5 := next (next B ((Below.refl _ _).drew)) hb5)
    (first | (refine hK _ _ ?_; clear hK K) | skip)
    refine wpAny_take (i := 7) (v := .bool false) rfl (by kernel_rfl) (by kernel_rfl) (by kernel_rfl) (fun _ _ _ h => h) (Or.inl ⟨by rfl, by intro w; go_simp⟩) ?_
    refine wpAny_ready (rs := [8]) (by kernel_rfl) (by simp) ?_
    refine AllReady.cons rfl (fun K hK => ?_) AllReady.nil
    go_simp
    go_wp2_with (go_at_call 87; refine (demN _ _ _ (by first | rfl | exact hne)).mono ?_; rintro e w7 ⟨rfl, hw7⟩; replace hw7 := hw7.symm; subst hw7)
    exact ⟨rfl, rfl, B5⟩

set_option maxHeartbeats 400000 in
theorem rp18_4 (b off cap : Nat) (l : List Int) (w : World) (h : Rd w (some ⟨b, off, none⟩) b off l) (hH : hd l = 18) (n : Nat) (hn : l.length = n + 4) (h1 : 18 ≤ n) (h2 : n ≤ 1518) (hcap : l.length ≤ cap) (hsum : sumAt l = Pb.crcI (front l)) (htag : Pk.tagB (Get.acc l 14 2) = false) :
    Calls Try.prog 50 #[.slice (some ⟨b, off, none⟩) l.length cap] w (Gives w 4) := by
  have B := below_alloc1 w (.cells #[.int .i64 0, .int .i64 0, .int .i64 0, .int .i64 0, .slice none 0 0] 28)
  have hs := h.size
  have k0 : (w.alloc (.cells #[.int .i64 0, .int .i64 0, .int .i64 0, .int .i64 0, .slice none 0 0] 28)).heap[w.heap.size]? = some (.cells #[.int .i64 0, .int .i64 0, .int .i64 0, .int .i64 0, .slice none 0 0] 28 (0, 0)) := at_new rfl
  have z0 : w.heap.size < (w.alloc (.cells #[.int .i64 0, .int .i64 0, .int .i64 0, .int .i64 0, .slice none 0 0] 28)).heap.size := by simp
  replace h := h.below B
  have hD := h.below ((Below.refl _ _).drew)
  have HD := head_any _ b off cap l _ h
  rw [hH] at HD
  obtain ⟨S, hS⟩ : ∃ S, S = sumAt l := ⟨_, rfl⟩
  obtain ⟨C, hC⟩ : ∃ C, C = Pb.crcI (front l) := ⟨_, rfl⟩
  have HS := sumCall _ b off cap n l _ hD hn S hS
  have hmn : (l.length : Int) - 4 = (n : Int) := by omega
  have hq : (18 : Int) ≤ (n : Int) := by omega
  have hq2 : (n : Int) ≤ 1518 := by omega
  have hnc : (n : Int) ≤ (cap : Int) := by omega
  have hn0 : (0 : Int) ≤ (n : Int) := by omega
  have hsc : S = C := by rw [hS, hC]; exact hsum
  have HSS : Hid (S = sumAt l) := hS
  have HCC : Hid (C = Pb.crcI (front l)) := hC
  have HB : Hid (body l = (l.drop 18).take (n - 18)) := by unfold Hid body; rw [hH, hn]; rfl
  obtain ⟨dV, hdV⟩ : ∃ V, V = Get.acc l 0 6 := ⟨_, rfl⟩
  obtain ⟨sV, hsV⟩ : ∃ V, V = Get.acc l 6 6 := ⟨_, rfl⟩
  obtain ⟨yV, hyV⟩ : ∃ V, V = Get.acc l 16 2 := ⟨_, rfl⟩
  obtain ⟨tV, htV⟩ : ∃ V, V = Get.acc l 14 2 := ⟨_, rfl⟩
  rw [← htV] at htag
  have Hd : Hid (dV = Get.acc l 0 6) := hdV
  have Hs : Hid (sV = Get.acc l 6 6) := hsV
  have Hy : Hid (yV = Get.acc l 16 2) := hyV
  have Ht : Hid (tV = Get.acc l 14 2) := htV
  clear hdV hsV hyV htV
  subst hsc
  clear hS hC hsum hH hD
  have HN : Hid (l.length = n + 4) := hn
  clear hn
  go_enter Try.func50, Try.ntmps50
  go_wp2_with (first | (go_at_call 86; refine HD.mono ?_; rintro e w' ⟨rfl, hw'⟩; replace hw' := hw'.symm; subst hw'; clear HD) | (go_at_call 87; refine (demY _ _ _ (by first | rfl | (simp; omega))).mono ?_; rintro e w' ⟨rfl, hw'⟩; replace hw' := hw'.symm; subst hw'))
  go_region_with (first | (go_at_call 48; refine (crcFront _ _ _ _ _ _ (h.below ((Below.refl _ _).drew)) HN.out _ HCC.out).mono ?_; rintro e w5 ⟨rfl, hb5⟩; have h5 := (h.below ((Below.refl _ _).drew)).below hb5; have B5 := next (next B ((Below.refl _ _).drew)) hb5) | (go_at_call 53; refine (sumCall _ _ _ _ _ _ _ h5 HN.out _ HSS.out).mono ?_; rintro e w6 ⟨rfl, hw6⟩; replace hw6 := hw6.symm; subst hw6) | (go_at_call 53; refine HS.mono ?_; rintro e w6 ⟨rfl, hw6⟩; replace hw6 := hw6.symm; subst hw6) | (go_at_call 87; refine (demY _ _ _ (by first | rfl | simp)).mono ?_; rintro e w7 ⟨rfl, hw7⟩; replace hw7 := hw7.symm; subst hw7))
  have sz5 := hb5.size
  have z5 : w.heap.size < w5.heap.size := Nat.lt_of_lt_of_le z0 hb5.size
  have k5 := (hb5.block _ z0).trans k0
  have BA : ∀ o, Below w5.heap.size w5 (w5.alloc o) := fun o => below_alloc1 _ _
  have HA : Hid (∀ o, Rd (w5.alloc o) (some ⟨b, off, none⟩) b off l) := fun o => h5.below (below_alloc1 _ _)
  have tok0 : True := trivial
  clear HS k0 z0 BA
  all_goals go_wp2_with (first | (go_at_call 53; clear tok0; refine (numCall _ b off cap 0 6 l _ h5 (by decide) (by decide) (by have := HN.out; omega) dV Hd.out).mono ?_; rintro e w6 ⟨rfl, hw6⟩; replace hw6 := hw6.symm; subst hw6; have tok1 : True := trivial) | (go_at_call 53; clear tok1; refine (numCall _ b off cap 6 6 l _ h5 (by decide) (by decide) (by have := HN.out; omega) sV Hs.out).mono ?_; rintro e w6 ⟨rfl, hw6⟩; replace hw6 := hw6.symm; subst hw6; have tok2 : True := trivial) | (go_at_call 53; clear tok2; refine (numCall _ b off cap 16 2 l _ h5 (by decide) (by decide) (by have := HN.out; omega) yV Hy.out).mono ?_; rintro e w6 ⟨rfl, hw6⟩; replace hw6 := hw6.symm; subst hw6; have tok3 : True := trivial) | (go_at_call 53; clear tok3; refine (numCall _ b off cap 14 2 l _ (HA.out _) (by decide) (by decide) (by have := HN.out; omega) tV Ht.out).mono ?_; rintro e w6 ⟨rfl, hw6⟩; replace hw6 := hw6.symm; subst hw6; have tok4 : True := trivial) | (go_at_call 82; refine (Pk.tag_any _ _).mono ?_; rw [htag]; rintro e w6 ⟨rfl, hw6⟩; replace hw6 := hw6.symm; subst hw6) | (go_at_call 87; clear tok4; refine (demN _ _ _ rfl).mono ?_; rintro e w6 ⟨rfl, hw6⟩; replace hw6 := hw6.symm; subst hw6; have tok5 : True := trivial))
  all_goals exact ⟨rfl, rfl, next B5 (below_alloc1 _ _)⟩

set_option maxHeartbeats 400000 in
theorem rp18_5 (b off cap : Nat) (l : List Int) (w : World) (h : Rd w (some ⟨b, off, none⟩) b off l) (hH : hd l = 18) (n : Nat) (hn : l.length = n + 4) (h1 : 18 ≤ n) (h2 : n ≤ 1518) (hcap : l.length ≤ cap) (hsum : sumAt l = Pb.crcI (front l)) (htag : Pk.tagB (Get.acc l 14 2) = true) (htyp : Pk.typB (Get.acc l 16 2) = false) :
    Calls Try.prog 50 #[.slice (some ⟨b, off, none⟩) l.length cap] w (Gives w 5) := by
  have B := below_alloc1 w (.cells #[.int .i64 0, .int .i64 0, .int .i64 0, .int .i64 0, .slice none 0 0] 28)
  have hs := h.size
  have k0 : (w.alloc (.cells #[.int .i64 0, .int .i64 0, .int .i64 0, .int .i64 0, .slice none 0 0] 28)).heap[w.heap.size]? = some (.cells #[.int .i64 0, .int .i64 0, .int .i64 0, .int .i64 0, .slice none 0 0] 28 (0, 0)) := at_new rfl
  have z0 : w.heap.size < (w.alloc (.cells #[.int .i64 0, .int .i64 0, .int .i64 0, .int .i64 0, .slice none 0 0] 28)).heap.size := by simp
  replace h := h.below B
  have hD := h.below ((Below.refl _ _).drew)
  have HD := head_any _ b off cap l _ h
  rw [hH] at HD
  obtain ⟨S, hS⟩ : ∃ S, S = sumAt l := ⟨_, rfl⟩
  obtain ⟨C, hC⟩ : ∃ C, C = Pb.crcI (front l) := ⟨_, rfl⟩
  have HS := sumCall _ b off cap n l _ hD hn S hS
  have hmn : (l.length : Int) - 4 = (n : Int) := by omega
  have hq : (18 : Int) ≤ (n : Int) := by omega
  have hq2 : (n : Int) ≤ 1518 := by omega
  have hnc : (n : Int) ≤ (cap : Int) := by omega
  have hn0 : (0 : Int) ≤ (n : Int) := by omega
  have hsc : S = C := by rw [hS, hC]; exact hsum
  have HSS : Hid (S = sumAt l) := hS
  have HCC : Hid (C = Pb.crcI (front l)) := hC
  have HB : Hid (body l = (l.drop 18).take (n - 18)) := by unfold Hid body; rw [hH, hn]; rfl
  obtain ⟨dV, hdV⟩ : ∃ V, V = Get.acc l 0 6 := ⟨_, rfl⟩
  obtain ⟨sV, hsV⟩ : ∃ V, V = Get.acc l 6 6 := ⟨_, rfl⟩
  obtain ⟨yV, hyV⟩ : ∃ V, V = Get.acc l 16 2 := ⟨_, rfl⟩
  obtain ⟨tV, htV⟩ : ∃ V, V = Get.acc l 14 2 := ⟨_, rfl⟩
  rw [← htV] at htag
  rw [← hyV] at htyp
  have Hd : Hid (dV = Get.acc l 0 6) := hdV
  have Hs : Hid (sV = Get.acc l 6 6) := hsV
  have Hy : Hid (yV = Get.acc l 16 2) := hyV
  have Ht : Hid (tV = Get.acc l 14 2) := htV
  clear hdV hsV hyV htV
  subst hsc
  clear hS hC hsum hH hD
  have HN : Hid (l.length = n + 4) := hn
  clear hn
  go_enter Try.func50, Try.ntmps50
  go_wp2_with (first | (go_at_call 86; refine HD.mono ?_; rintro e w' ⟨rfl, hw'⟩; replace hw' := hw'.symm; subst hw'; clear HD) | (go_at_call 87; refine (demY _ _ _ (by first | rfl | (simp; omega))).mono ?_; rintro e w' ⟨rfl, hw'⟩; replace hw' := hw'.symm; subst hw'))
  go_region_with (first | (go_at_call 48; refine (crcFront _ _ _ _ _ _ (h.below ((Below.refl _ _).drew)) HN.out _ HCC.out).mono ?_; rintro e w5 ⟨rfl, hb5⟩; have h5 := (h.below ((Below.refl _ _).drew)).below hb5; have B5 := next (next B ((Below.refl _ _).drew)) hb5) | (go_at_call 53; refine (sumCall _ _ _ _ _ _ _ h5 HN.out _ HSS.out).mono ?_; rintro e w6 ⟨rfl, hw6⟩; replace hw6 := hw6.symm; subst hw6) | (go_at_call 53; refine HS.mono ?_; rintro e w6 ⟨rfl, hw6⟩; replace hw6 := hw6.symm; subst hw6) | (go_at_call 87; refine (demY _ _ _ (by first | rfl | simp)).mono ?_; rintro e w7 ⟨rfl, hw7⟩; replace hw7 := hw7.symm; subst hw7))
  have sz5 := hb5.size
  have z5 : w.heap.size < w5.heap.size := Nat.lt_of_lt_of_le z0 hb5.size
  have k5 := (hb5.block _ z0).trans k0
  have BA : ∀ o, Below w5.heap.size w5 (w5.alloc o) := fun o => below_alloc1 _ _
  have HA : Hid (∀ o, Rd (w5.alloc o) (some ⟨b, off, none⟩) b off l) := fun o => h5.below (below_alloc1 _ _)
  have tok0 : True := trivial
  clear HS k0 z0 BA
  all_goals go_wp2_with (first | (go_at_call 53; clear tok0; refine (numCall _ b off cap 0 6 l _ h5 (by decide) (by decide) (by have := HN.out; omega) dV Hd.out).mono ?_; rintro e w6 ⟨rfl, hw6⟩; replace hw6 := hw6.symm; subst hw6; have tok1 : True := trivial) | (go_at_call 53; clear tok1; refine (numCall _ b off cap 6 6 l _ h5 (by decide) (by decide) (by have := HN.out; omega) sV Hs.out).mono ?_; rintro e w6 ⟨rfl, hw6⟩; replace hw6 := hw6.symm; subst hw6; have tok2 : True := trivial) | (go_at_call 53; clear tok2; refine (numCall _ b off cap 16 2 l _ h5 (by decide) (by decide) (by have := HN.out; omega) yV Hy.out).mono ?_; rintro e w6 ⟨rfl, hw6⟩; replace hw6 := hw6.symm; subst hw6; have tok3 : True := trivial) | (go_at_call 53; clear tok3; refine (numCall _ b off cap 14 2 l _ (HA.out _) (by decide) (by decide) (by have := HN.out; omega) tV Ht.out).mono ?_; rintro e w6 ⟨rfl, hw6⟩; replace hw6 := hw6.symm; subst hw6; have tok4 : True := trivial) | (go_at_call 82; refine (Pk.tag_any _ _).mono ?_; rw [htag]; rintro e w6 ⟨rfl, hw6⟩; replace hw6 := hw6.symm; subst hw6) | (go_at_call 87; clear tok4; refine (demY _ _ _ rfl).mono ?_; rintro e w6 ⟨rfl, hw6⟩; replace hw6 := hw6.symm; subst hw6; have tok5 : True := trivial) | (go_at_call 83; refine (Pk.typ_any _ _).mono ?_; rw [htyp]; rintro e w6 ⟨rfl, hw6⟩; replace hw6 := hw6.symm; subst hw6) | (go_at_call 87; clear tok5; refine (demN _ _ _ rfl).mono ?_; rintro e w6 ⟨rfl, hw6⟩; replace hw6 := hw6.symm; subst hw6; have tok6 : True := trivial))
  all_goals exact ⟨rfl, rfl, next B5 (below_alloc1 _ _)⟩

set_option maxHeartbeats 400000 in
theorem rp18_0 (b off cap : Nat) (l : List Int) (w : World) (h : Rd w (some ⟨b, off, none⟩) b off l) (hH : hd l = 18) (n : Nat) (hn : l.length = n + 4) (h1 : 18 ≤ n) (h2 : n ≤ 1518) (hcap : l.length ≤ cap) (hsum : sumAt l = Pb.crcI (front l)) (htag : Pk.tagB (Get.acc l 14 2) = true) (htyp : Pk.typB (Get.acc l 16 2) = true) :
    Calls Try.prog 50 #[.slice (some ⟨b, off, none⟩) l.length cap] w (Reads w (Get.acc l 0 6) (Get.acc l 6 6) (Get.acc l 14 2) (Get.acc l 16 2) (body l)) := by
  have B := below_alloc1 w (.cells #[.int .i64 0, .int .i64 0, .int .i64 0, .int .i64 0, .slice none 0 0] 28)
  have hs := h.size
  have k0 : (w.alloc (.cells #[.int .i64 0, .int .i64 0, .int .i64 0, .int .i64 0, .slice none 0 0] 28)).heap[w.heap.size]? = some (.cells #[.int .i64 0, .int .i64 0, .int .i64 0, .int .i64 0, .slice none 0 0] 28 (0, 0)) := at_new rfl
  have z0 : w.heap.size < (w.alloc (.cells #[.int .i64 0, .int .i64 0, .int .i64 0, .int .i64 0, .slice none 0 0] 28)).heap.size := by simp
  replace h := h.below B
  have hD := h.below ((Below.refl _ _).drew)
  have HD := head_any _ b off cap l _ h
  rw [hH] at HD
  obtain ⟨S, hS⟩ : ∃ S, S = sumAt l := ⟨_, rfl⟩
  obtain ⟨C, hC⟩ : ∃ C, C = Pb.crcI (front l) := ⟨_, rfl⟩
  have HS := sumCall _ b off cap n l _ hD hn S hS
  have hmn : (l.length : Int) - 4 = (n : Int) := by omega
  have hq : (18 : Int) ≤ (n : Int) := by omega
  have hq2 : (n : Int) ≤ 1518 := by omega
  have hnc : (n : Int) ≤ (cap : Int) := by omega
  have hn0 : (0 : Int) ≤ (n : Int) := by omega
  have hsc : S = C := by rw [hS, hC]; exact hsum
  have HSS : Hid (S = sumAt l) := hS
  have HCC : Hid (C = Pb.crcI (front l)) := hC
  have HB : Hid (body l = (l.drop 18).take (n - 18)) := by unfold Hid body; rw [hH, hn]; rfl
  obtain ⟨dV, hdV⟩ : ∃ V, V = Get.acc l 0 6 := ⟨_, rfl⟩
  obtain ⟨sV, hsV⟩ : ∃ V, V = Get.acc l 6 6 := ⟨_, rfl⟩
  obtain ⟨yV, hyV⟩ : ∃ V, V = Get.acc l 16 2 := ⟨_, rfl⟩
  obtain ⟨tV, htV⟩ : ∃ V, V = Get.acc l 14 2 := ⟨_, rfl⟩
  rw [← hdV, ← hsV, ← hyV, ← htV]
  rw [← htV] at htag
  rw [← hyV] at htyp
  have Hd : Hid (dV = Get.acc l 0 6) := hdV
  have Hs : Hid (sV = Get.acc l 6 6) := hsV
  have Hy : Hid (yV = Get.acc l 16 2) := hyV
  have Ht : Hid (tV = Get.acc l 14 2) := htV
  clear hdV hsV hyV htV
  subst hsc
  clear hS hC hsum hH hD
  have HN : Hid (l.length = n + 4) := hn
  clear hn
  go_enter Try.func50, Try.ntmps50
  go_wp2_with (first | (go_at_call 86; refine HD.mono ?_; rintro e w' ⟨rfl, hw'⟩; replace hw' := hw'.symm; subst hw'; clear HD) | (go_at_call 87; refine (demY _ _ _ (by first | rfl | (simp; omega))).mono ?_; rintro e w' ⟨rfl, hw'⟩; replace hw' := hw'.symm; subst hw'))
  go_region_with (first | (go_at_call 48; refine (crcFront _ _ _ _ _ _ (h.below ((Below.refl _ _).drew)) HN.out _ HCC.out).mono ?_; rintro e w5 ⟨rfl, hb5⟩; have h5 := (h.below ((Below.refl _ _).drew)).below hb5; have B5 := next (next B ((Below.refl _ _).drew)) hb5) | (go_at_call 53; refine (sumCall _ _ _ _ _ _ _ h5 HN.out _ HSS.out).mono ?_; rintro e w6 ⟨rfl, hw6⟩; replace hw6 := hw6.symm; subst hw6) | (go_at_call 53; refine HS.mono ?_; rintro e w6 ⟨rfl, hw6⟩; replace hw6 := hw6.symm; subst hw6) | (go_at_call 87; refine (demY _ _ _ (by first | rfl | simp)).mono ?_; rintro e w7 ⟨rfl, hw7⟩; replace hw7 := hw7.symm; subst hw7))
  have sz5 := hb5.size
  have z5 : w.heap.size < w5.heap.size := Nat.lt_of_lt_of_le z0 hb5.size
  have k5 := (hb5.block _ z0).trans k0
  have BA : ∀ o, Below w5.heap.size w5 (w5.alloc o) := fun o => below_alloc1 _ _
  have HA : Hid (∀ o, Rd (w5.alloc o) (some ⟨b, off, none⟩) b off l) := fun o => h5.below (below_alloc1 _ _)
  have tok0 : True := trivial
  clear HS k0 z0 BA
  all_goals go_wp2_with (first | (go_at_call 53; clear tok0; refine (numCall _ b off cap 0 6 l _ h5 (by decide) (by decide) (by have := HN.out; omega) dV Hd.out).mono ?_; rintro e w6 ⟨rfl, hw6⟩; replace hw6 := hw6.symm; subst hw6; have tok1 : True := trivial) | (go_at_call 53; clear tok1; refine (numCall _ b off cap 6 6 l _ h5 (by decide) (by decide) (by have := HN.out; omega) sV Hs.out).mono ?_; rintro e w6 ⟨rfl, hw6⟩; replace hw6 := hw6.symm; subst hw6; have tok2 : True := trivial) | (go_at_call 53; clear tok2; refine (numCall _ b off cap 16 2 l _ h5 (by decide) (by decide) (by have := HN.out; omega) yV Hy.out).mono ?_; rintro e w6 ⟨rfl, hw6⟩; replace hw6 := hw6.symm; subst hw6; have tok3 : True := trivial) | (go_at_call 53; clear tok3; refine (numCall _ b off cap 14 2 l _ (HA.out _) (by decide) (by decide) (by have := HN.out; omega) tV Ht.out).mono ?_; rintro e w6 ⟨rfl, hw6⟩; replace hw6 := hw6.symm; subst hw6; have tok4 : True := trivial) | (go_at_call 82; refine (Pk.tag_any _ _).mono ?_; rw [htag]; rintro e w6 ⟨rfl, hw6⟩; replace hw6 := hw6.symm; subst hw6) | (go_at_call 87; clear tok4; refine (demY _ _ _ rfl).mono ?_; rintro e w6 ⟨rfl, hw6⟩; replace hw6 := hw6.symm; subst hw6; have tok5 : True := trivial) | (go_at_call 83; refine (Pk.typ_any _ _).mono ?_; rw [htyp]; rintro e w6 ⟨rfl, hw6⟩; replace hw6 := hw6.symm; subst hw6) | (go_at_call 87; clear tok5; refine (demY _ _ _ rfl).mono ?_; rintro e w6 ⟨rfl, hw6⟩; replace hw6 := hw6.symm; subst hw6; have tok6 : True := trivial))
  have hbl : (body l).length = n - 18 := by rw [HB.out, List.length_take, List.length_drop, HN.out]; omega
  have hrB : Rd (w5.alloc (.cells #[.int .i64 dV, .int .i64 sV, .int .i64 tV, .int .i64 yV, .slice none 0 0] 28)) (some ⟨b, off + 18, none⟩) b (off + 18) (body l) := by rw [HB.out]; exact rd_take (rd_drop (HA.out _) _) _
  have kA : (w5.alloc (.cells #[.int .i64 dV, .int .i64 sV, .int .i64 tV, .int .i64 yV, .slice none 0 0] 28)).heap[w5.heap.size]? = some (.cells #[.int .i64 dV, .int .i64 sV, .int .i64 tV, .int .i64 yV, .slice none 0 0] 28 (0, 0)) := at_new rfl
  have zA : w5.heap.size < (w5.alloc (.cells #[.int .i64 dV, .int .i64 sV, .int .i64 tV, .int .i64 yV, .slice none 0 0] 28)).heap.size := by simp
  replace k5 := ((below_alloc1 w5 (.cells #[.int .i64 dV, .int .i64 sV, .int .i64 tV, .int .i64 yV, .slice none 0 0] 28)).block _ z5).trans k5
  have HBL : Hid ((body l).length = n - 18) := hbl
  clear HB hbl
  go_wp2_with (go_at_call 54; refine (cloneLen _ _ _ _ _ (body l) _ hrB (by simp) HBL.out).mono ?_; rintro e w8 ⟨a8, g8, c8, he8, hw8, hg8, hc8, hb8⟩; rw [HBL.out] at he8; subst he8; replace kA := (hb8.block _ zA).trans kA; replace k5 := (hb8.block _ (Nat.lt_trans z5 zA)).trans k5; obtain ⟨x0, x1, x2, x3, x4⟩ := five kA; obtain ⟨y0, y1, y2, y3, y4⟩ := five k5; have fA := Bl.free kA; have f5 := Bl.free k5)
  refine bodyPost_ret (v := .agg #[.int .i64 dV, .int .i64 sV, .int .i64 tV, .int .i64 yV, .slice a8 (n - 18) c8]) (by simp [results, Try.results50, go_sem, y0, y1, y2, y3, y4]) rfl ⟨a8, g8, c8, by rw [HBL.out], ?_, by simp at hg8; omega, hc8, ?_⟩
  · simp at hg8
    exact Tg.wt_set (Tg.wt_set (Tg.wt_set (Tg.wt_set (Tg.wt_set (Tg.wt_set hw8 (by simp; omega)) (by simp; omega)) (by simp; omega)) (by simp; omega)) (by simp; omega)) (by simp; omega)
  · exact (((((((next (next B5 (below_alloc1 _ _)) hb8).setCell (by simp; omega) _).setCell (by simp) _).setCell (by simp) _).setCell (by simp) _).setCell (by simp) _).setCell (by simp) _)

end Go.Proofs.Ythgbjbebjjeddaa.Pr
