/-
  Contracts of the two PutNum: what they answer, on every slice of bytes that is not nil and every two integers.
-/
import Derived.Test.YtecnbenlmbppbaaGreatUnspec
import Derived.Laws.CopyOwn
namespace Go.Proofs.YtecnbenlmbppbaaGreat.Put
open Go.RowKit
set_option maxRecDepth 8000
open Num Rw Mk Un

/-- The i-th of z digits of base 256, the first the greatest. -/
def dig (N z i : Nat) : Int := ((N / pw (z - 1 - i) % 256 : Nat) : Int)
def digs (N z t : Nat) : List Int := (List.range t).map (dig N z)
theorem digs_len (N z t : Nat) : (digs N z t).length = t := by simp [digs]
theorem digs_succ (N z t : Nat) : digs N z (t + 1) = digs N z t ++ [dig N z t] := by simp [digs, List.range_succ]
theorem digs_byt (N z t : Nat) : Byt (digs N z t) := by
  intro x hx
  simp only [digs, List.mem_map] at hx
  obtain ⟨i, _, rfl⟩ := hx
  unfold dig; omega
theorem byt_app {a b : List Int} (ha : Byt a) (hb : Byt b) : Byt (a ++ b) := fun n hn => (List.mem_append.1 hn).elim (ha n) (hb n)
theorem digs_at (N z t i : Nat) (h : i < t) : (digs N z t).getD i 0 = dig N z i := by simp [digs, List.getD, h]

def putOk (len : Nat) (n size : Int) : Bool := numOkB n size && decide ((len : Int) + size ≤ 60000)
/-- What PutNum answers. -/
def putl (l : List Int) (n size : Int) : List Int := if putOk l.length n size then l ++ digs n.toNat size.toNat size.toNat else []

def Post (w : World) (l : List Int) (n size : Int) (e : Ending) (w' : World) : Prop :=
  ∃ a g cap, e = .returned (.tuple #[.slice a (putl l n size).length cap, .bool (putOk l.length n size)]) ∧ Wt w' a g (putl l n size) ∧ w.heap.size ≤ g ∧ Below w.heap.size w w'

theorem post_no {w w' : World} {l : List Int} {n size : Int} {e : Ending} (h : putOk l.length n size = false) (he : e = .returned (.tuple #[.slice none 0 0, .bool false])) (hb : Below w.heap.size w w') : Post w l n size e w' := by
  have hu : putl l n size = [] := by simp [putl, h]
  refine ⟨none, w.heap.size, 0, ?_, ?_, Nat.le_refl _, hb⟩
  · rw [he, hu, h]; rfl
  · rw [hu]; exact Wt.nil _ _ _

theorem post_yes {w w' : World} {l : List Int} {N z : Nat} {e : Ending} {g cap : Nat} (h : putOk l.length N z = true) (he : e = .returned (.tuple #[.slice (some ⟨g, 0, none⟩) (l.length + z) cap, .bool true])) (hw : Wt w' (some ⟨g, 0, none⟩) g (l ++ digs N z z)) (hg : w.heap.size ≤ g) (hb : Below w.heap.size w w') : Post w l N z e w' := by
  have hu : putl l N z = l ++ digs N z z := by simp [putl, h]
  refine ⟨some ⟨g, 0, none⟩, g, cap, ?_, by rw [hu]; exact hw, hg, hb⟩
  rw [he, hu, h, List.length_append, digs_len]

theorem ok_num {len : Nat} {n size : Int} (h : numOkB n size = false) : putOk len n size = false := by simp [putOk, h]
theorem ok_big {len : Nat} {n size : Int} (h : ¬ (len : Int) + size ≤ 60000) : putOk len n size = false := by unfold putOk; simp; omega
theorem ok_yes {len : Nat} {n size : Int} (h1 : numOkB n size = true) (h : (len : Int) + size ≤ 60000) : putOk len n size = true := by unfold putOk; simp [h1]; omega
theorem numOk_nat {n size : Int} (h : numOkB n size = true) : ∃ N z : Nat, n = N ∧ size = z ∧ 1 ≤ z ∧ z ≤ 6 ∧ N < pw z := by
  unfold numOkB at h
  simp at h
  refine ⟨n.toNat, size.toNat, by omega, by omega, by omega, by omega, ?_⟩
  omega

theorem div_step (N k : Nat) : N / pw k / 256 = N / pw (k + 1) := by rw [Nat.div_div_eq_div_mul, pw_succ]

set_option maxRecDepth 4000 in
set_option maxHeartbeats 2000000 in
theorem specPut_any (b off cap : Nat) (l : List Int) (n size : Int) (w : World) (h : Rd w (some ⟨b, off, none⟩) b off l) :
    Calls Tryz.prog 51 #[.slice (some ⟨b, off, none⟩) l.length cap, .int .i64 n, .int .i64 size] w (Post w l n size) := by
  obtain ⟨i0, hi, hz0, hz1, hz2⟩ := info_parts info5
  have hs := h.size
  have hy := h.byt
  have hc := h.cell
  clear h
  cases hn : numOkB n size with
  | false =>
    have HN : Hid (putOk l.length n size = false) := ok_num hn
    go_enter Tryz.func51, Tryz.ntmps51
    go_wp2_with (go_at_call 109; refine (Num.specNumOk_any _ _ _).mono ?_; rw [hn]; rintro e w' ⟨rfl, rfl⟩)
    go_ret2
    exact post_no HN.out rfl (Below.refl _ _)
  | true =>
    obtain ⟨N, z, rfl, rfl, z1, z6, hNz⟩ := numOk_nat hn
    by_cases hbig : 60000 - (z : Int) < (l.length : Int)
    · have HN : Hid (putOk l.length N z = false) := ok_big (by omega)
      go_enter Tryz.func51, Tryz.ntmps51
      go_wp2_with (go_at_call 109; refine (Num.specNumOk_any _ _ _).mono ?_; rw [hn]; rintro e w' ⟨rfl, rfl⟩)
      go_ret2
      exact post_no HN.out rfl (Below.refl _ _)
    · have HO : Hid (putOk l.length N z = true) := ok_yes hn (by omega)
      have hN : N < 281474976710656 := Nat.lt_of_lt_of_le hNz (Nat.pow_le_pow_right (n := 256) (by decide) z6)
      have O0 : (w.alloc (.cells #[] 5)).ownsRow w.heap.size 5 1 (.slice (some ⟨w.heap.size, 0, none⟩) 0 0) 0 [] := World.ownsRow_made w #[] 0 (Nat.le_refl _) (Nat.zero_le _) rfl
      have hnews : ∀ j u, (l.map (Value.int .u8))[j]? = some u → (w.alloc (.cells #[] 5)).cell? ((⟨b, off, none⟩ : Addr).add j) = some u := by
        intro j u hj
        have hjl : j < l.length := by have := (List.getElem?_eq_some_iff.1 hj).1; simpa using this
        have hcj := hc j hjl
        have e : u = .int .u8 (l.getD j 0) := by simp [hjl] at hj; rw [← hj]; simp [List.getD, hjl]
        subst e
        have hlt := World.block_lt_of_cell? _ _ hcj
        have hold := World.cell?_alloc_old w (.cells #[] 5) ⟨b, off + j, none⟩ (by simp at hlt ⊢; omega)
        by_cases ej : j = 0
        · subst ej; simpa [Addr.add] using hold.trans hcj
        · simpa [Addr.add, ej] using hold.trans hcj
      go_enter Tryz.func51, Tryz.ntmps51
      go_wp2_with (first | (go_at_call 109; refine (Num.specNumOk_any _ _ _).mono ?_; rw [hn]; rintro e w' ⟨rfl, hw'⟩; replace hw' := hw'.symm; subst hw') | (at_builtin; refine wpList_append_own _ rfl (.tmp 23) (.tmp 24) 22 rfl w.heap.size 5 i0 (.int .u8 0) 1 1 Tryz.underlying22 hi hz0 hz1 hz2 rfl (by decide) (.slice (some ⟨w.heap.size, 0, none⟩) 0 0) 0 [] rfl O0 ⟨b, off, none⟩ l.length cap (l.map (Value.int .u8)) rfl (by simp) hnews (by intro u hu; simp at hu; obtain ⟨q, _, rfl⟩ := hu; rfl) (by unfold maxLen; omega) (by omega) (by simp) ?_; intro v0 w0 hown0 hgrow0 hnil0))
      have H0 : HasI w0 w.heap.size v0 (l ++ digs N z 0) := ⟨by simpa [digs] using hown0, fun e => by have := hnil0.1 e; simp at this⟩
      have B0 : Below w.heap.size w w0 := (((Below.refl w.heap.size w).alloc (Nat.le_refl _) (.cells #[] 5)).grown hgrow0 (by simp) (fun k hk => by simp [Value.ownBlock] at hk; omega))
      clear hown0 hgrow0 hnil0 O0 hnews hc
      have e0 : (z : Int) - 1 = (z : Int) - 1 - ((0 : Nat) : Int) := by omega
      go_loopw [8, 9, 10, 11] (fun v i _ _ wr => ∃ t : Nat, t ≤ z ∧ i = .int .i64 ((z : Int) - 1 - (t : Int)) ∧ HasI wr w.heap.size v (l ++ digs N z t) ∧ Below w.heap.size w wr) (fun _ i _ _ _ => (intOf i + 1).toNat)
      case atStart => exact ⟨0, Nat.zero_le _, by rw [← e0], H0, B0⟩
      case round =>
        obtain ⟨t, ht, rfl, hown, hbel⟩ := hrel
        clear H0 B0 e0
        by_cases hlt : t < z
        · have hge : (0 : Int) ≤ (z : Int) - 1 - (t : Int) := by omega
          go_wp2
          go_loop [10, 11] (fun d q => ∃ k : Nat, k ≤ z - 1 - t ∧ q = .int .i64 k ∧ d = .int .i64 ((N / pw k : Nat) : Int)) (fun _ q => z - (intOf q).toNat)
          case atStart => exact ⟨0, Nat.zero_le _, rfl, by simp [pw]⟩
          case round =>
            obtain ⟨k, hk, rfl, rfl⟩ := hrel
            have hq : N / pw k < 281474976710656 := Nat.lt_of_le_of_lt (Nat.div_le_self _ _) hN
            by_cases hkl : k < z - 1 - t
            · have HS : Hid (N / pw k / 256 = N / pw (k + 1)) := div_step N k
              have hkz : (k : Int) < (z : Int) - 1 - (t : Int) := by omega
              generalize N / pw k = D at *
              go_wp2
              go_round
              case rel => exact ⟨k + 1, by omega, by go_num, by rw [← HS.out]; go_num⟩
              case measure => simp [intOf]; omega
            · have hkz : ¬ (k : Int) < (z : Int) - 1 - (t : Int) := by omega
              have ek : k = z - 1 - t := by omega
              have HD : Hid (dig N z t = ((N / pw k % 256 : Nat) : Int)) := by unfold Hid dig; rw [ek]
              have HL : (l ++ digs N z t).length = l.length + t := by rw [List.length_append, digs_len]
              have HU : Hid (l ++ digs N z (t + 1) = (l ++ digs N z t) ++ [dig N z t]) := by unfold Hid; rw [digs_succ, List.append_assoc]
              have hsz := hbel.size
              clear ek
              generalize N / pw k = D at *
              have HDD : Hid (dig N z t = (D : Int) % 256) := by unfold Hid; rw [HD.out]; omega
              go_wp2_with (at_builtin; refine wpList_append_own _ rfl (.tmp 40) (.tmp 44) 22 rfl w.heap.size 5 i0 (.int .u8 0) 1 1 Tryz.underlying22 hi hz0 hz1 hz2 rfl (by decide) u8 (l ++ digs N z t).length ((l ++ digs N z t).map (Value.int .u8)) rfl (hown.1.alloc _) ⟨wr.heap.size, 0, none⟩ 1 1 [.int .u8 ((D : Int) % 256)] rfl rfl (one_new wr _ _) (by intro u hu; simp at hu; subst hu; rfl) (by rw [HL]; unfold maxLen; omega) (by rw [HL]; omega) (by simp; omega) ?_; intro v' w1 hown' hgrow hnil)
              have R := hasI_step hown hbel (Nat.le_refl _) hown' hgrow hnil
              rw [← HDD.out, ← HU.out] at R
              clear hown' hgrow hnil hown hbel
              go_wp2
              go_roundw
              case rel => exact ⟨t + 1, by omega, by go_num, R.1, R.2⟩
              case measure => simp [intOf]; omega
        · have he : t = z := by omega
          subst he
          have hge : ¬ (0 : Int) ≤ (t : Int) - 1 - (t : Int) := by omega
          obtain ⟨g, cap', hv, hg, hwt⟩ := hasI_form hown (by rw [List.length_append, digs_len]; omega) (byt_app hy (digs_byt _ _ _))
          subst hv
          clear hown
          go_wp2
          go_ret2
          refine post_yes (g := g) (cap := cap') HO.out ?_ hwt hg hbel
          have e3 : l.length + t = l.length + (digs N t t).length := by rw [digs_len]
          rw [e3]
          rfl


/-- The row under way: the old bytes, k digits, noughts. -/
def pt (l : List Int) (N z k : Nat) (i : Nat) : Int := if i < l.length then l.getD i 0 else if i - l.length < k then dig N z (i - l.length) else 0
def part (l : List Int) (N z k : Nat) : Nat → Value := fun i => .int .u8 (pt l N z k i)
theorem part_step {w : World} {g n N z k : Nat} {l : List Int} (h : w.rowIs g 5 n (part l N z k)) : (w.setCell ⟨g, l.length + k, none⟩ (.int .u8 (dig N z k))).rowIs g 5 n (part l N z (k + 1)) := by
  refine (h.set (l.length + k) _).congr fun i hi => ?_
  unfold part pt
  by_cases e : i = l.length + k
  · subst e; simp; intro hk; omega
  · by_cases e2 : i < l.length
    · simp [e, e2]
    · have : (i - l.length < k + 1) = (i - l.length < k) := by rw [eq_iff_iff]; omega
      simp [e, e2, this]
theorem part_start {w : World} {g n N z : Nat} {l : List Int} (hn : n = l.length + z) (h : w.heap[g]? = some (.cells (splice (List.replicate n (.int .u8 0)) 0 (l.map (Value.int .u8))).toArray 5 (0, 0))) : w.rowIs g 5 n (part l N z 0) := by
  subst hn
  refine ⟨_, h, ?_, fun i hi => ?_⟩
  · simp [splice]
  · unfold part pt
    by_cases e : i < l.length
    · simp [splice, e, List.getElem?_append_left, List.getD]
    · simp only [splice, Nat.zero_add, List.take_zero, List.nil_append, List.length_map, List.drop_replicate, Nat.add_sub_cancel_left, List.getElem?_toArray]
      rw [List.getElem?_append_right (by simpa using e), List.getElem?_replicate, if_pos (by simp; omega)]
      simp [e]
theorem pt_list (l : List Int) (N z i : Nat) (h : i < l.length + z) : pt l N z z i = (l ++ digs N z z).getD i 0 := by
  unfold pt
  by_cases e : i < l.length
  · simp [e, List.getD, List.getElem?_append_left]
  · have e2 : i - l.length < z := by omega
    have := digs_at N z z (i - l.length) e2
    simp only [List.getD] at this ⊢
    rw [if_neg e, if_pos e2, List.getElem?_append_right (by omega), this]

theorem dig_shift (N z k : Nat) : dig N z k = (N : Int) / 2 ^ (8 * (z - 1 - k)) % 256 := by
  have e : pw (z - 1 - k) = 2 ^ (8 * (z - 1 - k)) := by unfold pw; rw [Nat.pow_mul]
  unfold dig
  rw [e]
  simp

set_option maxRecDepth 4000 in
set_option maxHeartbeats 2000000 in
theorem implPut_any (b off cap : Nat) (l : List Int) (n size : Int) (w : World) (h : Rd w (some ⟨b, off, none⟩) b off l) :
    Calls Tryz.prog 159 #[.slice (some ⟨b, off, none⟩) l.length cap, .int .i64 n, .int .i64 size] w (Post w l n size) := by
  have hs := h.size
  have hy := h.byt
  have hc := h.cell
  clear h
  cases hn : numOkB n size with
  | false =>
    have HN : Hid (putOk l.length n size = false) := ok_num hn
    go_enter Tryz.func159, Tryz.ntmps159
    go_wp2_with (go_at_call 188; refine (Num.implNumOk_any _ _ _).mono ?_; rw [hn]; rintro e w' ⟨rfl, rfl⟩)
    go_ret2
    exact post_no HN.out rfl (Below.refl _ _)
  | true =>
    obtain ⟨N, z, rfl, rfl, z1, z6, hNz⟩ := numOk_nat hn
    by_cases hbig : 60000 < (l.length : Int) + (z : Int)
    · have HN : Hid (putOk l.length N z = false) := ok_big (by omega)
      go_enter Tryz.func159, Tryz.ntmps159
      go_wp2_with (go_at_call 188; refine (Num.implNumOk_any _ _ _).mono ?_; rw [hn]; rintro e w' ⟨rfl, rfl⟩)
      go_ret2
      exact post_no HN.out rfl (Below.refl _ _)
    · have HO : Hid (putOk l.length N z = true) := ok_yes hn (by omega)
      have hN : N < 281474976710656 := Nat.lt_of_lt_of_le hNz (Nat.pow_le_pow_right (n := 256) (by decide) z6)
      obtain ⟨m, hm⟩ : ∃ m, m = l.length + z := ⟨_, rfl⟩
      have HM : Hid (m = l.length + z) := hm
      have hmz : (l.length : Int) + (z : Int) = (m : Int) := by omega
      have hm6 : m ≤ 60000 := by omega
      have hml : l.length ≤ m := by omega
      have hmk := run_make_row' (P := Tryz.prog) 22 5 (.int .u8 0) 1 Tryz.underlying22 info5 rfl .i64 .i64 m (by omega) (by omega)
      have hsrc : ∀ j v, (l.map (Value.int .u8))[j]? = some v → (w.alloc (.cells (madeCells #[.int .u8 0] m) 5)).cell? ((⟨b, off, none⟩ : Addr).add j) = some v := by
        intro j u hj
        have hjl : j < l.length := by have := (List.getElem?_eq_some_iff.1 hj).1; simpa using this
        have hcj := hc j hjl
        have e : u = .int .u8 (l.getD j 0) := by simp [hjl] at hj; rw [← hj]; simp [List.getD, hjl]
        subst e
        have hlt := World.block_lt_of_cell? _ _ hcj
        have hold := World.cell?_alloc_old w (.cells (madeCells #[.int .u8 0] m) 5) ⟨b, off + j, none⟩ (by simp at hlt ⊢; omega)
        by_cases ej : j = 0
        · subst ej; simpa [Addr.add] using hold.trans hcj
        · simpa [Addr.add, ej] using hold.trans hcj
      have hgm : (w.alloc (.cells (madeCells #[.int .u8 0] m) 5)).heap[w.heap.size]? = some (.cells (madeCells #[.int .u8 0] m) 5 (0, 0)) := heap_alloc_new _ _
      obtain ⟨w0, hcp, hrow0, hb0⟩ : ∃ w0, (Builtin.copy_ #[22, 22] 3 #[.slice (some ⟨w.heap.size, 0, none⟩) m m, .slice (some ⟨b, off, none⟩) l.length cap]).run Tryz.prog (w.alloc (.cells (madeCells #[.int .u8 0] m) 5)) = .ok (goInt l.length) w0 ∧ w0.rowIs w.heap.size 5 m (part l N z 0) ∧ Below w.heap.size w w0 := by
        have hr := run_copy_row (P := Tryz.prog) (w.alloc (.cells (madeCells #[.int .u8 0] m) 5)) 22 22 3 5 w.heap.size 0 m m ⟨b, off, none⟩ l.length cap (madeCells #[.int .u8 0] m) 5 (l.map (Value.int .u8)) Tryz.underlying22 (by kernel_rfl) hgm (by rw [List.length_map]; exact (Nat.min_eq_left hml).symm) hsrc (by simp [size_madeCells]; omega) (by intro u hu; simp at hu; obtain ⟨q, _, rfl⟩ := hu; rfl)
        rw [List.length_map] at hr
        refine ⟨_, hr, ?_, below_setRow ((Below.refl _ _).alloc (Nat.le_refl _) _) (Nat.le_refl _) _⟩
        refine part_start HM.out ?_
        rw [setRow_heap _ _ _ _ _ _ hgm, toList_madeCells_one]
        simp [splice]
      clear hsrc hgm hc
      have HR0 : Hid (w0.rowIs w.heap.size 5 m (part l N z 0)) := hrow0
      have HB0 : Hid (Below w.heap.size w w0) := hb0
      have HCP : Hid ((Builtin.copy_ #[22, 22] 3 #[.slice (some ⟨w.heap.size, 0, none⟩) m m, .slice (some ⟨b, off, none⟩) l.length cap]).run Tryz.prog (w.alloc (.cells (madeCells #[.int .u8 0] m) 5)) = .ok (goInt l.length) w0) := hcp
      clear hrow0 hb0 hcp hm
      go_enter Tryz.func159, Tryz.ntmps159
      go_wp2_with (go_at_call 188; refine (Num.implNumOk_any _ _ _).mono ?_; rw [hn]; rintro e w' ⟨rfl, hw'⟩; replace hw' := hw'.symm; subst hw')
      rw [HCP.out]
      clear HCP hmk
      simp only [Result.andThen, goInt]
      go_wp2
      clear hmz
      go_loopw [30, 9] (fun i _ wr => ∃ k : Nat, k ≤ z ∧ i = .int .i64 k ∧ Below w.heap.size w wr ∧ wr.rowIs w.heap.size 5 m (part l N z k)) (fun i _ _ => z - (intOf i).toNat)
      case atStart => exact ⟨0, Nat.zero_le _, rfl, HB0.out, HR0.out⟩
      case round =>
        obtain ⟨k, hk, rfl, hbel, hrow⟩ := hrel
        clear HB0 HR0
        by_cases hlt : k < z
        · have hkz : (k : Int) < (z : Int) := by omega
          have hin : l.length + k < m := by have := HM.out; omega
          have hinz : (l.length : Int) + (k : Int) < (m : Int) := by omega
          have g1 : wr.cell? ⟨w.heap.size, l.length + k, none⟩ = some (part l N z k (l.length + k)) := hrow.cell hin
          have g2 : wr.frozen? ⟨w.heap.size, l.length + k, none⟩ = false := hrow.frozen _
          have HD : Hid (dig N z k = (N : Int) / 2 ^ (8 * (z - 1 - k)) % 256) := dig_shift N z k
          go_wp2
          go_roundw
          case rel => exact ⟨k + 1, by omega, by go_num, hbel.setCell (by simp) _, by rw [← HD.out]; exact part_step hrow⟩
          case measure => simp [intOf]; omega
        · have he : k = z := by omega
          subst he
          have hkz : ¬ (k : Int) < (k : Int) := by omega
          go_wp2
          go_ret2
          have hM := HM.out
          refine post_yes (g := w.heap.size) (cap := m) HO.out (by rw [← hM]; rfl) ?_ (Nat.le_refl _) hbel
          exact ⟨fun _ => rfl, fun i hi => by
            rw [List.length_append, digs_len] at hi
            rw [hrow.cell (by omega), part, pt_list l N k i hi], fun i _ => hrow.frozen i, by rw [List.length_append, digs_len]; omega, byt_app hy (digs_byt _ _ _)⟩


theorem rd_only {g : Nat} {w w' : World} {a : Option Addr} {b off : Nat} {l : List Int} (h : Only g w w') (hr : Rd w a b off l) (hne : l.length = 0 ∨ b ≠ g) : Rd w' a b off l := by
  rcases hne with h0 | hne
  · exact ⟨hr.head, fun i hi => by omega, hr.size, hr.byt⟩
  · exact h.rd hr hne
theorem wt_only {g : Nat} {w w' : World} {a : Option Addr} {b : Nat} {l : List Int} (h : Only g w w') (hr : Wt w a b l) (hne : l.length = 0 ∨ b ≠ g) : Wt w' a b l := by
  rcases hne with h0 | hne
  · exact ⟨hr.head, fun i hi => by omega, fun i hi => by omega, hr.size, hr.byt⟩
  · exact ⟨hr.head, fun i hi => h.cell (hr.cell i hi) (by simpa using hne), fun i hi => (World.frozen?_of_block (h.block b (World.block_lt_of_cell? _ _ (hr.cell i hi)) (by simpa using hne))).trans (hr.free i hi), hr.size, hr.byt⟩
theorem wt_lt {w : World} {a : Option Addr} {b : Nat} {l : List Int} (h : Wt w a b l) : l.length = 0 ∨ b < w.heap.size := by
  rcases Nat.eq_zero_or_pos l.length with h0 | h0
  · exact .inl h0
  · exact .inr (World.block_lt_of_cell? _ _ (h.cell 0 h0))

end Go.Proofs.YtecnbenlmbppbaaGreat.Put
