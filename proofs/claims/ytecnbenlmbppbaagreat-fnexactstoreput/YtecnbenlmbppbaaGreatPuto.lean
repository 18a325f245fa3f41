/-
  The two PutNum where the number is written: the slice that they hand back is the call's own, with its spare room.
-/
import Derived.Test.YtecnbenlmbppbaaGreatPut
namespace Go.Proofs.YtecnbenlmbppbaaGreat.Put
open Go.RowKit
set_option maxRecDepth 8000
open Num Rw Mk Un

/-- The digits are written, into a slice of the call's own. -/
def Own (w : World) (l : List Int) (N z : Nat) (e : Ending) (w' : World) : Prop :=
  ∃ v, e = .returned (.tuple #[v, .bool true]) ∧ HasI w' w.heap.size v (l ++ digs N z z) ∧ Below w.heap.size w w'

theorem own_list {w : World} {g base : Nat} {L : List Int} (hx : L.length ≤ maxLen) (hb : base ≤ g) (h : w.rowIs g 5 L.length (fun i => .int .u8 (L.getD i 0))) :
    HasI w base (.slice (some ⟨g, 0, none⟩) L.length L.length) L := by
  obtain ⟨c, hc, hs, hf⟩ := h
  refine ⟨⟨by simp, .inr ⟨g, _, c, rfl, hb, hc, Nat.le_refl _, hx, by omega, ?_⟩⟩, by simp⟩
  refine List.ext_getElem? fun i => ?_
  by_cases hi : i < L.length
  · have h1 := hf i hi
    rw [List.getElem?_take, if_pos (by omega), Array.getElem?_toList, h1, List.getElem?_map, List.getElem?_eq_getElem hi]
    simp [List.getD, hi]
  · rw [List.getElem?_eq_none (by simp; omega), List.getElem?_eq_none (by simp; omega)]
theorem own_row {w : World} {g base m N z : Nat} {l : List Int} (hm : m = (l ++ digs N z z).length) (hx : m ≤ maxLen) (hb : base ≤ g) (h : w.rowIs g 5 m (part l N z z)) :
    HasI w base (.slice (some ⟨g, 0, none⟩) m m) (l ++ digs N z z) := by
  subst hm
  exact own_list hx hb (h.congr fun i hi => by rw [part, pt_list l N z i (by rw [List.length_append, digs_len] at hi; exact hi)])

set_option maxRecDepth 4000 in
set_option maxHeartbeats 2000000 in
theorem specPut_own (b off cap : Nat) (l : List Int) (n size : Int) (w : World) (h : Rd w (some ⟨b, off, none⟩) b off l) (hn : numOkB n size = true) (h6 : (l.length : Int) + size ≤ 60000) :
    Calls Tryz.prog 51 #[.slice (some ⟨b, off, none⟩) l.length cap, .int .i64 n, .int .i64 size] w (Own w l n.toNat size.toNat) := by
  obtain ⟨i0, hi, hz0, hz1, hz2⟩ := info_parts info5
  have hs := h.size
  have hy := h.byt
  have hc := h.cell
  clear h
  · obtain ⟨N, z, rfl, rfl, z1, z6, hNz⟩ := numOk_nat hn
    have hbig : ¬ (60000 - (z : Int) < (l.length : Int)) := by omega
    have hbig2 : ¬ (60000 < (l.length : Int) + (z : Int)) := by omega
    · have HO : Hid (putOk l.length N z = true) := ok_yes hn (by omega)
      have hN : N < 281474976710656 := Nat.lt_of_lt_of_le hNz (Nat.pow_le_pow_right (n := 256) (by decide) z6)
      have O0 : (w.alloc (.cells #[] 5)).ownsRow w.heap.size 5 1 (.slice (some ⟨w.heap.size, 0, none⟩) 0 0) 0 [] := World.ownsRow_made w #[] 0 (Nat.le_refl _) (Nat.zero_le _) rfl
      have hnews : ∀ j u, (l.map (Value.int .u8))[j]? = some u → (w.alloc (.cells #[] 5)).cell? ((⟨b, off, none⟩ : Addr).add j) = some u := by
        intro j u hj
        have hjl : j < l.length := by have := (List.getElem?_eq_some_iff.1 hj).1; simpa using this
        have hcj := hc j hjl
        have e : u = .int .u8 (l.getD j 0) := by simp [hjl] at hj; rw [← hj]; simp [List.getD, hjl]
        subst e
        have hlt := World.block_lt_of_cell? _ _ hcj
        have hold := World.cell?_alloc_old w (.cells #[] 5) ⟨b, off + j, none⟩ (by simp at hlt ⊢; omega)
        by_cases ej : j = 0
        · subst ej; simpa [Addr.add] using hold.trans hcj
        · simpa [Addr.add, ej] using hold.trans hcj
      go_enter Tryz.func51, Tryz.ntmps51
      go_wp2_with (first | (go_at_call 109; refine (Num.specNumOk_any _ _ _).mono ?_; rw [hn]; rintro e w' ⟨rfl, hw'⟩; replace hw' := hw'.symm; subst hw') | (at_builtin; refine wpList_append_own _ rfl (.tmp 23) (.tmp 24) 22 rfl w.heap.size 5 i0 (.int .u8 0) 1 1 Tryz.underlying22 hi hz0 hz1 hz2 rfl (by decide) (.slice (some ⟨w.heap.size, 0, none⟩) 0 0) 0 [] rfl O0 ⟨b, off, none⟩ l.length cap (l.map (Value.int .u8)) rfl (by simp) hnews (by intro u hu; simp at hu; obtain ⟨q, _, rfl⟩ := hu; rfl) (by unfold maxLen; omega) (by omega) (by simp) ?_; intro v0 w0 hown0 hgrow0 hnil0))
      have H0 : HasI w0 w.heap.size v0 (l ++ digs N z 0) := ⟨by simpa [digs] using hown0, fun e => by have := hnil0.1 e; simp at this⟩
      have B0 : Below w.heap.size w w0 := (((Below.refl w.heap.size w).alloc (Nat.le_refl _) (.cells #[] 5)).grown hgrow0 (by simp) (fun k hk => by simp [Value.ownBlock] at hk; omega))
      clear hown0 hgrow0 hnil0 O0 hnews hc
      have e0 : (z : Int) - 1 = (z : Int) - 1 - ((0 : Nat) : Int) := by omega
      go_loopw [8, 9, 10, 11] (fun v i _ _ wr => ∃ t : Nat, t ≤ z ∧ i = .int .i64 ((z : Int) - 1 - (t : Int)) ∧ HasI wr w.heap.size v (l ++ digs N z t) ∧ Below w.heap.size w wr) (fun _ i _ _ _ => (intOf i + 1).toNat)
      case atStart => exact ⟨0, Nat.zero_le _, by rw [← e0], H0, B0⟩
      case round =>
        obtain ⟨t, ht, rfl, hown, hbel⟩ := hrel
        clear H0 B0 e0
        by_cases hlt : t < z
        · have hge : (0 : Int) ≤ (z : Int) - 1 - (t : Int) := by omega
          go_wp2
          go_loop [10, 11] (fun d q => ∃ k : Nat, k ≤ z - 1 - t ∧ q = .int .i64 k ∧ d = .int .i64 ((N / pw k : Nat) : Int)) (fun _ q => z - (intOf q).toNat)
          case atStart => exact ⟨0, Nat.zero_le _, rfl, by simp [pw]⟩
          case round =>
            obtain ⟨k, hk, rfl, rfl⟩ := hrel
            have hq : N / pw k < 281474976710656 := Nat.lt_of_le_of_lt (Nat.div_le_self _ _) hN
            by_cases hkl : k < z - 1 - t
            · have HS : Hid (N / pw k / 256 = N / pw (k + 1)) := div_step N k
              have hkz : (k : Int) < (z : Int) - 1 - (t : Int) := by omega
              generalize N / pw k = D at *
              go_wp2
              go_round
              case rel => exact ⟨k + 1, by omega, by go_num, by rw [← HS.out]; go_num⟩
              case measure => simp [intOf]; omega
            · have hkz : ¬ (k : Int) < (z : Int) - 1 - (t : Int) := by omega
              have ek : k = z - 1 - t := by omega
              have HD : Hid (dig N z t = ((N / pw k % 256 : Nat) : Int)) := by unfold Hid dig; rw [ek]
              have HL : (l ++ digs N z t).length = l.length + t := by rw [List.length_append, digs_len]
              have HU : Hid (l ++ digs N z (t + 1) = (l ++ digs N z t) ++ [dig N z t]) := by unfold Hid; rw [digs_succ, List.append_assoc]
              have hsz := hbel.size
              clear ek
              generalize N / pw k = D at *
              have HDD : Hid (dig N z t = (D : Int) % 256) := by unfold Hid; rw [HD.out]; omega
              go_wp2_with (at_builtin; refine wpList_append_own _ rfl (.tmp 40) (.tmp 44) 22 rfl w.heap.size 5 i0 (.int .u8 0) 1 1 Tryz.underlying22 hi hz0 hz1 hz2 rfl (by decide) u8 (l ++ digs N z t).length ((l ++ digs N z t).map (Value.int .u8)) rfl (hown.1.alloc _) ⟨wr.heap.size, 0, none⟩ 1 1 [.int .u8 ((D : Int) % 256)] rfl rfl (one_new wr _ _) (by intro u hu; simp at hu; subst hu; rfl) (by rw [HL]; unfold maxLen; omega) (by rw [HL]; omega) (by simp; omega) ?_; intro v' w1 hown' hgrow hnil)
              have R := hasI_step hown hbel (Nat.le_refl _) hown' hgrow hnil
              rw [← HDD.out, ← HU.out] at R
              clear hown' hgrow hnil hown hbel
              go_wp2
              go_roundw
              case rel => exact ⟨t + 1, by omega, by go_num, R.1, R.2⟩
              case measure => simp [intOf]; omega
        · have he : t = z := by omega
          subst he
          have hge : ¬ (0 : Int) ≤ (t : Int) - 1 - (t : Int) := by omega
          have HH : Hid (HasI wr w.heap.size u8 (l ++ digs N t t)) := hown
          clear hown
          go_wp2
          go_ret2
          exact ⟨_, rfl, HH.out, hbel⟩

set_option maxRecDepth 4000 in
set_option maxHeartbeats 2000000 in
theorem implPut_own (b off cap : Nat) (l : List Int) (n size : Int) (w : World) (h : Rd w (some ⟨b, off, none⟩) b off l) (hn : numOkB n size = true) (h6 : (l.length : Int) + size ≤ 60000) :
    Calls Tryz.prog 159 #[.slice (some ⟨b, off, none⟩) l.length cap, .int .i64 n, .int .i64 size] w (Own w l n.toNat size.toNat) := by
  have hs := h.size
  have hy := h.byt
  have hc := h.cell
  clear h
  · obtain ⟨N, z, rfl, rfl, z1, z6, hNz⟩ := numOk_nat hn
    have hbig : ¬ (60000 - (z : Int) < (l.length : Int)) := by omega
    have hbig2 : ¬ (60000 < (l.length : Int) + (z : Int)) := by omega
    · have HO : Hid (putOk l.length N z = true) := ok_yes hn (by omega)
      have hN : N < 281474976710656 := Nat.lt_of_lt_of_le hNz (Nat.pow_le_pow_right (n := 256) (by decide) z6)
      obtain ⟨m, hm⟩ : ∃ m, m = l.length + z := ⟨_, rfl⟩
      have HM : Hid (m = l.length + z) := hm
      have hmz : (l.length : Int) + (z : Int) = (m : Int) := by omega
      have hm6 : m ≤ 60000 := by omega
      have hml : l.length ≤ m := by omega
      have hmk := run_make_row' (P := Tryz.prog) 22 5 (.int .u8 0) 1 Tryz.underlying22 info5 rfl .i64 .i64 m (by omega) (by omega)
      have hsrc : ∀ j v, (l.map (Value.int .u8))[j]? = some v → (w.alloc (.cells (madeCells #[.int .u8 0] m) 5)).cell? ((⟨b, off, none⟩ : Addr).add j) = some v := by
        intro j u hj
        have hjl : j < l.length := by have := (List.getElem?_eq_some_iff.1 hj).1; simpa using this
        have hcj := hc j hjl
        have e : u = .int .u8 (l.getD j 0) := by simp [hjl] at hj; rw [← hj]; simp [List.getD, hjl]
        subst e
        have hlt := World.block_lt_of_cell? _ _ hcj
        have hold := World.cell?_alloc_old w (.cells (madeCells #[.int .u8 0] m) 5) ⟨b, off + j, none⟩ (by simp at hlt ⊢; omega)
        by_cases ej : j = 0
        · subst ej; simpa [Addr.add] using hold.trans hcj
        · simpa [Addr.add, ej] using hold.trans hcj
      have hgm : (w.alloc (.cells (madeCells #[.int .u8 0] m) 5)).heap[w.heap.size]? = some (.cells (madeCells #[.int .u8 0] m) 5 (0, 0)) := heap_alloc_new _ _
      obtain ⟨w0, hcp, hrow0, hb0⟩ : ∃ w0, (Builtin.copy_ #[22, 22] 3 #[.slice (some ⟨w.heap.size, 0, none⟩) m m, .slice (some ⟨b, off, none⟩) l.length cap]).run Tryz.prog (w.alloc (.cells (madeCells #[.int .u8 0] m) 5)) = .ok (goInt l.length) w0 ∧ w0.rowIs w.heap.size 5 m (part l N z 0) ∧ Below w.heap.size w w0 := by
        have hr := run_copy_row (P := Tryz.prog) (w.alloc (.cells (madeCells #[.int .u8 0] m) 5)) 22 22 3 5 w.heap.size 0 m m ⟨b, off, none⟩ l.length cap (madeCells #[.int .u8 0] m) 5 (l.map (Value.int .u8)) Tryz.underlying22 (by kernel_rfl) hgm (by rw [List.length_map]; exact (Nat.min_eq_left hml).symm) hsrc (by simp [size_madeCells]; omega) (by intro u hu; simp at hu; obtain ⟨q, _, rfl⟩ := hu; rfl)
        rw [List.length_map] at hr
        refine ⟨_, hr, ?_, below_setRow ((Below.refl _ _).alloc (Nat.le_refl _) _) (Nat.le_refl _) _⟩
        refine part_start HM.out ?_
        rw [setRow_heap _ _ _ _ _ _ hgm, toList_madeCells_one]
        simp [splice]
      clear hsrc hgm hc
      have HR0 : Hid (w0.rowIs w.heap.size 5 m (part l N z 0)) := hrow0
      have HB0 : Hid (Below w.heap.size w w0) := hb0
      have HCP : Hid ((Builtin.copy_ #[22, 22] 3 #[.slice (some ⟨w.heap.size, 0, none⟩) m m, .slice (some ⟨b, off, none⟩) l.length cap]).run Tryz.prog (w.alloc (.cells (madeCells #[.int .u8 0] m) 5)) = .ok (goInt l.length) w0) := hcp
      clear hrow0 hb0 hcp hm
      go_enter Tryz.func159, Tryz.ntmps159
      go_wp2_with (go_at_call 188; refine (Num.implNumOk_any _ _ _).mono ?_; rw [hn]; rintro e w' ⟨rfl, hw'⟩; replace hw' := hw'.symm; subst hw')
      rw [HCP.out]
      clear HCP hmk
      simp only [Result.andThen, goInt]
      go_wp2
      clear hmz
      go_loopw [30, 9] (fun i _ wr => ∃ k : Nat, k ≤ z ∧ i = .int .i64 k ∧ Below w.heap.size w wr ∧ wr.rowIs w.heap.size 5 m (part l N z k)) (fun i _ _ => z - (intOf i).toNat)
      case atStart => exact ⟨0, Nat.zero_le _, rfl, HB0.out, HR0.out⟩
      case round =>
        obtain ⟨k, hk, rfl, hbel, hrow⟩ := hrel
        clear HB0 HR0
        by_cases hlt : k < z
        · have hkz : (k : Int) < (z : Int) := by omega
          have hin : l.length + k < m := by have := HM.out; omega
          have hinz : (l.length : Int) + (k : Int) < (m : Int) := by omega
          have g1 : wr.cell? ⟨w.heap.size, l.length + k, none⟩ = some (part l N z k (l.length + k)) := hrow.cell hin
          have g2 : wr.frozen? ⟨w.heap.size, l.length + k, none⟩ = false := hrow.frozen _
          have HD : Hid (dig N z k = (N : Int) / 2 ^ (8 * (z - 1 - k)) % 256) := dig_shift N z k
          go_wp2
          go_roundw
          case rel => exact ⟨k + 1, by omega, by go_num, hbel.setCell (by simp) _, by rw [← HD.out]; exact part_step hrow⟩
          case measure => simp [intOf]; omega
        · have he : k = z := by omega
          subst he
          have hkz : ¬ (k : Int) < (k : Int) := by omega
          go_wp2
          go_ret2
          exact ⟨_, rfl, own_row (by have := HM.out; rw [List.length_append, digs_len]; omega) (by unfold maxLen; omega) (Nat.le_refl _) hrow, hbel⟩

set_option maxRecDepth 4000 in
set_option maxHeartbeats 2000000 in
theorem specPut_own0 (l : List Int) (hl : l = []) (n size : Int) (w : World) (hn : numOkB n size = true) :
    Calls Tryz.prog 51 #[.slice none 0 0, .int .i64 n, .int .i64 size] w (Own w l n.toNat size.toNat) := by
  obtain ⟨i0, hi, hz0, hz1, hz2⟩ := info_parts info5
  have hy : Byt l := by subst hl; intro n h; simp at h
  have hl0 : l.length = 0 := by rw [hl]; rfl
  have hs : l.length ≤ 4194304 := by omega
  have HL0 : Hid (l = []) := hl
  clear hl
  · · obtain ⟨N, z, rfl, rfl, z1, z6, hNz⟩ := numOk_nat hn
      have HO : Hid (putOk l.length N z = true) := ok_yes hn (by omega)
      have hN : N < 281474976710656 := Nat.lt_of_lt_of_le hNz (Nat.pow_le_pow_right (n := 256) (by decide) z6)
      have hbg : ¬ (60000 - (z : Int) < 0) := by omega
      have O0 : (w.alloc (.cells #[] 5)).ownsRow w.heap.size 5 1 (.slice (some ⟨w.heap.size, 0, none⟩) 0 0) 0 [] := World.ownsRow_made w #[] 0 (Nat.le_refl _) (Nat.zero_le _) rfl
      go_enter Tryz.func51, Tryz.ntmps51
      go_wp2_with (go_at_call 109; refine (Num.specNumOk_any _ _ _).mono ?_; rw [hn]; rintro e w' ⟨rfl, hw'⟩; replace hw' := hw'.symm; subst hw')
      obtain ⟨w0, hw0⟩ : ∃ w0, w0 = w.alloc (.cells #[] 5) := ⟨_, rfl⟩
      have H0 : HasI (w.alloc (.cells #[] 5)) w.heap.size (.slice (some ⟨w.heap.size, 0, none⟩) 0 0) (l ++ digs N z 0) := by rw [HL0.out]; exact ⟨by simpa [digs] using O0, by simp⟩
      have B0 : Below w.heap.size w (w.alloc (.cells #[] 5)) := (Below.refl w.heap.size w).alloc (Nat.le_refl _) (.cells #[] 5)
      clear O0 hw0 w0
      have e0 : (z : Int) - 1 = (z : Int) - 1 - ((0 : Nat) : Int) := by omega
      go_loopw [8, 9, 10, 11] (fun v i _ _ wr => ∃ t : Nat, t ≤ z ∧ i = .int .i64 ((z : Int) - 1 - (t : Int)) ∧ HasI wr w.heap.size v (l ++ digs N z t) ∧ Below w.heap.size w wr) (fun _ i _ _ _ => (intOf i + 1).toNat)
      case atStart => exact ⟨0, Nat.zero_le _, by rw [← e0], H0, B0⟩
      case round =>
        obtain ⟨t, ht, rfl, hown, hbel⟩ := hrel
        clear H0 B0 e0
        by_cases hlt : t < z
        · have hge : (0 : Int) ≤ (z : Int) - 1 - (t : Int) := by omega
          go_wp2
          go_loop [10, 11] (fun d q => ∃ k : Nat, k ≤ z - 1 - t ∧ q = .int .i64 k ∧ d = .int .i64 ((N / pw k : Nat) : Int)) (fun _ q => z - (intOf q).toNat)
          case atStart => exact ⟨0, Nat.zero_le _, rfl, by simp [pw]⟩
          case round =>
            obtain ⟨k, hk, rfl, rfl⟩ := hrel
            have hq : N / pw k < 281474976710656 := Nat.lt_of_le_of_lt (Nat.div_le_self _ _) hN
            by_cases hkl : k < z - 1 - t
            · have HS : Hid (N / pw k / 256 = N / pw (k + 1)) := div_step N k
              have hkz : (k : Int) < (z : Int) - 1 - (t : Int) := by omega
              generalize N / pw k = D at *
              go_wp2
              go_round
              case rel => exact ⟨k + 1, by omega, by go_num, by rw [← HS.out]; go_num⟩
              case measure => simp [intOf]; omega
            · have hkz : ¬ (k : Int) < (z : Int) - 1 - (t : Int) := by omega
              have ek : k = z - 1 - t := by omega
              have HD : Hid (dig N z t = ((N / pw k % 256 : Nat) : Int)) := by unfold Hid dig; rw [ek]
              have HL : (l ++ digs N z t).length = l.length + t := by rw [List.length_append, digs_len]
              have HU : Hid (l ++ digs N z (t + 1) = (l ++ digs N z t) ++ [dig N z t]) := by unfold Hid; rw [digs_succ, List.append_assoc]
              have hsz := hbel.size
              clear ek
              generalize N / pw k = D at *
              have HDD : Hid (dig N z t = (D : Int) % 256) := by unfold Hid; rw [HD.out]; omega
              go_wp2_with (at_builtin; refine wpList_append_own _ rfl (.tmp 40) (.tmp 44) 22 rfl w.heap.size 5 i0 (.int .u8 0) 1 1 Tryz.underlying22 hi hz0 hz1 hz2 rfl (by decide) u8 (l ++ digs N z t).length ((l ++ digs N z t).map (Value.int .u8)) rfl (hown.1.alloc _) ⟨wr.heap.size, 0, none⟩ 1 1 [.int .u8 ((D : Int) % 256)] rfl rfl (one_new wr _ _) (by intro u hu; simp at hu; subst hu; rfl) (by rw [HL]; unfold maxLen; omega) (by rw [HL]; omega) (by simp; omega) ?_; intro v' w1 hown' hgrow hnil)
              have R := hasI_step hown hbel (Nat.le_refl _) hown' hgrow hnil
              rw [← HDD.out, ← HU.out] at R
              clear hown' hgrow hnil hown hbel
              go_wp2
              go_roundw
              case rel => exact ⟨t + 1, by omega, by go_num, R.1, R.2⟩
              case measure => simp [intOf]; omega
        · have he : t = z := by omega
          subst he
          have hge : ¬ (0 : Int) ≤ (t : Int) - 1 - (t : Int) := by omega
          have HH : Hid (HasI wr w.heap.size u8 (l ++ digs N t t)) := hown
          clear hown
          go_wp2
          go_ret2
          exact ⟨_, rfl, HH.out, hbel⟩

theorem copy_nil (w : World) (ad : Addr) (m c : Nat) : (Builtin.copy_ #[22, 22] 3 #[.slice (some ad) m c, .slice none 0 0]).run Tryz.prog w = .ok (goInt 0) w := by
  simp [Builtin.copy_, go_sem]

set_option maxRecDepth 4000 in
set_option maxHeartbeats 2000000 in
theorem implPut_own0 (l : List Int) (hl : l = []) (n size : Int) (w : World) (hn : numOkB n size = true) :
    Calls Tryz.prog 159 #[.slice none 0 0, .int .i64 n, .int .i64 size] w (Own w l n.toNat size.toNat) := by
  have hy : Byt l := by subst hl; intro n h; simp at h
  have hl0 : l.length = 0 := by rw [hl]; rfl
  have hs : l.length ≤ 4194304 := by omega
  have HL0 : Hid (l = []) := hl
  clear hl
  · · obtain ⟨N, z, rfl, rfl, z1, z6, hNz⟩ := numOk_nat hn
      have HO : Hid (putOk l.length N z = true) := ok_yes hn (by omega)
      have hbg : ¬ (60000 < (z : Int)) := by omega
      have hN : N < 281474976710656 := Nat.lt_of_lt_of_le hNz (Nat.pow_le_pow_right (n := 256) (by decide) z6)
      have HM : Hid (z = l.length + z) := by unfold Hid; omega
      have hmk := run_make_row' (P := Tryz.prog) 22 5 (.int .u8 0) 1 Tryz.underlying22 info5 rfl .i64 .i64 z (by omega) (by omega)
      have hgm : (w.alloc (.cells (madeCells #[.int .u8 0] z) 5)).heap[w.heap.size]? = some (.cells (madeCells #[.int .u8 0] z) 5 (0, 0)) := heap_alloc_new _ _
      have HR0 : Hid ((w.alloc (.cells (madeCells #[.int .u8 0] z) 5)).rowIs w.heap.size 5 z (part l N z 0)) := by
        refine part_start HM.out ?_
        rw [hgm, HL0.out]
        rw [← toList_madeCells_one]
        simp [splice]
      have HB0 : Hid (Below w.heap.size w (w.alloc (.cells (madeCells #[.int .u8 0] z) 5))) := (Below.refl _ _).alloc (Nat.le_refl _) _
      go_enter Tryz.func159, Tryz.ntmps159
      go_wp2_with (go_at_call 188; refine (Num.implNumOk_any _ _ _).mono ?_; rw [hn]; rintro e w' ⟨rfl, hw'⟩; replace hw' := hw'.symm; subst hw')
      rw [copy_nil]
      simp only [Result.andThen, goInt]
      go_wp2
      go_loopw [30, 9] (fun i _ wr => ∃ k : Nat, k ≤ z ∧ i = .int .i64 k ∧ Below w.heap.size w wr ∧ wr.rowIs w.heap.size 5 z (part l N z k)) (fun i _ _ => z - (intOf i).toNat)
      case atStart => exact ⟨0, Nat.zero_le _, rfl, HB0.out, HR0.out⟩
      case round =>
        obtain ⟨k, hk, rfl, hbel, hrow⟩ := hrel
        clear HB0 HR0
        by_cases hlt : k < z
        · have hkz : (k : Int) < (z : Int) := by omega
          have g1 : wr.cell? ⟨w.heap.size, k, none⟩ = some (part l N z k k) := hrow.cell hlt
          have g2 : wr.frozen? ⟨w.heap.size, k, none⟩ = false := hrow.frozen _
          have HD : Hid (dig N z k = (N : Int) / 2 ^ (8 * (z - 1 - k)) % 256) := dig_shift N z k
          have PS := part_step hrow
          rw [hl0, Nat.zero_add] at PS
          have HP : Hid ((wr.setCell ⟨w.heap.size, k, none⟩ (.int .u8 (dig N z k))).rowIs w.heap.size 5 z (part l N z (k + 1))) := PS
          clear PS
          go_wp2
          go_roundw
          case rel => exact ⟨k + 1, by omega, by go_num, hbel.setCell (by simp) _, by rw [← HD.out]; exact HP.out⟩
          case measure => simp [intOf]; omega
        · have he : k = z := by omega
          subst he
          have hkz : ¬ (k : Int) < (k : Int) := by omega
          go_wp2
          go_ret2
          exact ⟨_, rfl, own_row (by have := HM.out; rw [List.length_append, digs_len]; omega) (by unfold maxLen; omega) (Nat.le_refl _) hrow, hbel⟩

end Go.Proofs.YtecnbenlmbppbaaGreat.Put
