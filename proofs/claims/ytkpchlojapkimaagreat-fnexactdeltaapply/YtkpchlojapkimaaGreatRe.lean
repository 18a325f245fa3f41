/-
  The specification's RelOk.
-/
import Derived.Test.YtkpchlojapkimaaGreatRc
namespace Go.Proofs.YtkpchlojapkimaaGreat.Rl
set_option maxRecDepth 8000
set_option linter.unusedSimpArgs false
set_option linter.unusedVariables false
open Go Go.RowKit
open Num Word Pl Rp
open Vl (ordRow)

theorem below_drewN {B : Nat} {w w' : World} (h : Below B w w') (n : Nat) : Below B w (w'.drewN n) := ⟨h.os, h.tape, h.output, h.size, h.block⟩

set_option maxHeartbeats 4000000 in
theorem relS_any (ar : Int) (a : Option Addr) (b off cap : Nat) (Q : List Rm) (w : World) (h : Rd w a b off Q) :
    Calls Tryz.prog 82 #[.agg #[.int .i64 ar, .slice a Q.length cap]] w fun e w' => e = .returned (.bool (relB ar (said Q))) ∧ Below w.heap.size w w' := by
  obtain ⟨W1, hW1⟩ : ∃ W1, W1 = w.alloc (.cells #[.int .i64 ar, .slice a Q.length cap] 67) := ⟨_, rfl⟩
  have B1 : Below w.heap.size w W1 := by subst hW1; exact below_alloc1 _ _
  have k0 : W1.heap[w.heap.size]? = some (.cells #[.int .i64 ar, .slice a Q.length cap] 67 (0, 0)) := by subst hW1; exact at_new rfl
  by_cases hlo : ar < 0
  · have e : relB ar (said Q) = false := by rw [relB_eq, decide_eq_false (by omega)]; rfl
    rw [e]
    clear hW1
    go_enter Tryz.func82, Tryz.ntmps82
    go_wp2
    go_ret
    exact ⟨rfl, below_alloc1 _ _⟩
  by_cases hhi : 6 < ar
  · have e : relB ar (said Q) = false := by rw [relB_eq, decide_eq_false (by omega)]; rfl
    rw [e]
    clear hW1
    go_enter Tryz.func82, Tryz.ntmps82
    go_wp2
    go_ret
    exact ⟨rfl, below_alloc1 _ _⟩
  by_cases hfew : 300 < Q.length
  · have e : relB ar (said Q) = false := by rw [relB_eq, said_len, decide_eq_false (by omega : ¬ Q.length ≤ 300)]; simp
    rw [e]
    have hf : (300 : Int) < (Q.length : Int) := by omega
    clear hW1
    go_enter Tryz.func82, Tryz.ntmps82
    go_wp2
    go_ret
    exact ⟨rfl, below_alloc1 _ _⟩
  have hf : ¬ (300 : Int) < (Q.length : Int) := by omega
  obtain ⟨hh, hc, ho, hs⟩ := h.below B1
  clear h
  obtain ⟨R, hR⟩ : ∃ R, R = relB ar (said Q) := ⟨_, rfl⟩
  have HG : Hid ((∀ i, i < Q.length → upB ar Q i = true) → R = true) := fun h => by rw [hR]; exact rel_loop (by omega) (by omega) h
  have HB : Hid (∀ k, k < Q.length → upB ar Q k = false → R = false) := fun k hk h => by rw [hR]; exact rel_bad hk h
  rw [← hR]
  clear hR hfew
  obtain ⟨n, hn⟩ : ∃ n, n = Q.length := ⟨_, rfl⟩
  rw [← hn] at hh hc ho hs hf HG HB k0 hW1 ⊢
  clear hn
  go_enter Tryz.func82, Tryz.ntmps82
  go_wp2
  rw [← hW1]
  clear hW1
  go_loopw [21] (fun i wr => ∃ k : Nat, k ≤ n ∧ i = .int .i64 k ∧ Below W1.heap.size W1 wr ∧ ∀ i, i < k → upB ar Q i = true) (fun i _ => n - (intOf i).toNat)
  case atStart => exact ⟨0, Nat.zero_le _, rfl, Below.refl _ _, fun i hi => by omega⟩
  case round =>
    obtain ⟨k, hk, rfl, hbel, hpre⟩ := hrel
    have HP : Hid (∀ i, i < k → upB ar Q i = true) := hpre
    clear hpre
    replace k0 := (hbel.block _ (blk_lt k0)).trans k0
    obtain ⟨p0, p1⟩ := two k0
    by_cases hlt : k < n
    · obtain rfl := hh (by omega)
      have hkz : (k : Int) < (n : Int) := by omega
      have hk0 : (0 : Int) ≤ (k : Int) := by omega
      have A1 := (hbel.cell (World.block_lt_of_cell? _ _ (hc k hlt))).trans (hc k hlt)
      have lb : b < wr.heap.size := World.block_lt_of_cell? _ _ A1
      have o1 := Vl.Rd.below (ho k hlt) hbel
      have HB1 : Hid (upB ar Q k = false → R = false) := HB.out k hlt
      have HX : Hid (upB ar Q k = true → ∀ i, i < k + 1 → upB ar Q i = true) := fun h i hi => by
        by_cases e : i = k
        · subst e; exact h
        · exact HP.out i (by omega)
      clear HB HP
      by_cases hk1 : k = 0
      · subst hk1
        have eu : upB ar Q 0 = fitB ar (Q.getD 0 rm0).l := by unfold upB; simp
        simp only [Nat.add_zero] at A1
        rw [eu] at HB1 HX
        clear eu hc ho hh
        generalize Q.getD 0 rm0 = y at A1 o1 HB1 HX
        obtain ⟨ya, yb, yo, yc, yl⟩ := y
        simp only [Rm.val] at A1 o1 HB1 HX
        unfold fitB at HB1 HX
        by_cases hd : (yl.length : Int) = ar
        · have hd1 : ((yl.length : Int) != ar) = false := by simpa using hd
          rw [decide_eq_true hd, Bool.true_and] at HB1 HX
          have hR := fun W h => Vl.rowS_any ya yb yo yc yl W h
          clear hd
          cases hv : Vl.rowB yl with
          | false =>
            rw [hv] at hR HB1
            go_wp2
            go_region_held3 (fun w' => w'.cell? ⟨w.heap.size, 0, none⟩ = some (.int .i64 ar) ∧ w'.cell? ⟨w.heap.size, 1, none⟩ = some (.slice (some ⟨b, off, none⟩) n cap) ∧ w'.cell? ⟨b, off, none⟩ = some (.slice ya yl.length yc)) (go_keep) (first | (go_at_call 128; refine (hR _ (o1.below ((Below.refl _ _).drew))).mono ?_; rintro e w1 ⟨rfl, hb⟩; replace hb := Rw.next ((Below.refl _ _).drew) hb; clear p0 p1; replace hbel := Rw.next hbel hb; replace k0 := (hb.block _ (blk_lt k0)).trans k0; obtain ⟨p0, p1⟩ := two k0; replace A1 := (hb.cell (World.block_lt_of_cell? _ _ A1)).trans A1; replace o1 := Vl.Rd.below o1 hb))
            go_wp2
            go_ret
            exact ⟨ret_bool (HB1.out (by first | rfl | trivial)).symm, Rw.next B1 hbel⟩
          | true =>
            rw [hv] at hR HX
            go_wp2
            go_region_held3 (fun w' => w'.cell? ⟨w.heap.size, 0, none⟩ = some (.int .i64 ar) ∧ w'.cell? ⟨w.heap.size, 1, none⟩ = some (.slice (some ⟨b, off, none⟩) n cap) ∧ w'.cell? ⟨b, off, none⟩ = some (.slice ya yl.length yc)) (go_keep) (first | (go_at_call 128; refine (hR _ (o1.below ((Below.refl _ _).drew))).mono ?_; rintro e w1 ⟨rfl, hb⟩; replace hb := Rw.next ((Below.refl _ _).drew) hb; clear p0 p1; replace hbel := Rw.next hbel hb; replace k0 := (hb.block _ (blk_lt k0)).trans k0; obtain ⟨p0, p1⟩ := two k0; replace A1 := (hb.cell (World.block_lt_of_cell? _ _ A1)).trans A1; replace o1 := Vl.Rd.below o1 hb))
            go_wp2
            go_quiet (fail)
            go_wp2
            go_roundw
            case rel => exact ⟨0 + 1, by omega, by go_num, below_drewN hbel _, HX.out (by first | rfl | trivial)⟩
            case measure => simp [intOf]; omega
        · have hd1 : ((yl.length : Int) != ar) = true := by simpa using hd
          rw [decide_eq_false hd, Bool.false_and] at HB1
          clear hd
          go_wp2
          go_quiet (fail)
          go_wp2
          go_ret
          exact ⟨ret_bool (HB1.out (by first | rfl | trivial)).symm, Rw.next B1 (below_drewN hbel _)⟩
      · obtain ⟨j, hj⟩ : ∃ j, k = j + 1 := ⟨k - 1, by omega⟩
        have A0 := (hbel.cell (World.block_lt_of_cell? _ _ (hc j (by omega)))).trans (hc j (by omega))
        have o0 := Vl.Rd.below (ho j (by omega)) hbel
        have eu : upB ar Q k = (fitB ar (Q.getD k rm0).l && decide (Vl.rordB (Q.getD j rm0).l (Q.getD k rm0).l = -1)) := by
          unfold upB
          have e1 : k - 1 = j := by omega
          rw [e1, decide_eq_false hk1, Bool.false_or]
        rw [eu] at HB1 HX
        have ek : IntKind.i64.wrap ((k : Int) - 1) = (j : Int) := by rw [IntKind.wrap_i64]; omega
        have hjn : (j : Int) < (n : Int) := by omega
        have hj0 : (0 : Int) ≤ (j : Int) := by omega
        have kz : (0 : Int) < (k : Int) := by omega
        have kn : 0 < k := by omega
        have kd : decide ((0 : Int) < (k : Int)) = true := decide_eq_true kz
        clear eu hc ho hh hk1 hj
        generalize Q.getD k rm0 = y at A1 o1 HB1 HX
        generalize Q.getD j rm0 = x at A0 o0 HB1 HX
        obtain ⟨ya, yb, yo, yc, yl⟩ := y
        obtain ⟨xa, xb, xo, xc, xl⟩ := x
        simp only [Rm.val] at A0 A1 o0 o1 HB1 HX
        unfold fitB at HB1 HX
        by_cases hd : (yl.length : Int) = ar
        · have hd1 : ((yl.length : Int) != ar) = false := by simpa using hd
          rw [decide_eq_true hd, Bool.true_and] at HB1 HX
          have hR := fun W h => Vl.rowS_any ya yb yo yc yl W h
          have hO := fun W h h' => Vl.rorderS_any xa ya xb xo xc yb yo yc xl yl W h h'
          clear hd
          cases hv : Vl.rowB yl with
          | false =>
            rw [hv] at hR HB1
            go_wp2
            go_region_held3 (fun w' => w'.cell? ⟨w.heap.size, 0, none⟩ = some (.int .i64 ar) ∧ w'.cell? ⟨w.heap.size, 1, none⟩ = some (.slice (some ⟨b, off, none⟩) n cap) ∧ w'.cell? ⟨b, off + k, none⟩ = some (.slice ya yl.length yc)) (go_keep) (first | (go_at_call 128; refine (hR _ (o1.below ((Below.refl _ _).drew))).mono ?_; rintro e w1 ⟨rfl, hb⟩; replace hb := Rw.next ((Below.refl _ _).drew) hb; clear p0 p1; replace hbel := Rw.next hbel hb; replace k0 := (hb.block _ (blk_lt k0)).trans k0; obtain ⟨p0, p1⟩ := two k0; replace A1 := (hb.cell (World.block_lt_of_cell? _ _ A1)).trans A1; replace o1 := Vl.Rd.below o1 hb))
            go_wp2
            go_ret
            exact ⟨ret_bool (HB1.out (by first | rfl | trivial)).symm, Rw.next B1 hbel⟩
          | true =>
            rw [hv] at hR HX HB1
            rw [Bool.true_and] at HX HB1
            generalize Vl.rordB xl yl = r at hO HB1 HX
            by_cases hr : r = -1
            · subst hr
              go_wp2
              go_region_held3 (fun w' => w'.cell? ⟨w.heap.size, 0, none⟩ = some (.int .i64 ar) ∧ w'.cell? ⟨w.heap.size, 1, none⟩ = some (.slice (some ⟨b, off, none⟩) n cap) ∧ w'.cell? ⟨b, off + k, none⟩ = some (.slice ya yl.length yc)) (go_keep) (first | (go_at_call 128; refine (hR _ (o1.below ((Below.refl _ _).drew))).mono ?_; rintro e w1 ⟨rfl, hb⟩; replace hb := Rw.next ((Below.refl _ _).drew) hb; clear p0 p1; replace hbel := Rw.next hbel hb; replace k0 := (hb.block _ (blk_lt k0)).trans k0; obtain ⟨p0, p1⟩ := two k0; replace A1 := (hb.cell (World.block_lt_of_cell? _ _ A1)).trans A1; replace o1 := Vl.Rd.below o1 hb; replace A0 := (hb.cell (World.block_lt_of_cell? _ _ A0)).trans A0; replace o0 := Vl.Rd.below o0 hb))
              go_wp2
              go_region_held3 (fun w' => w'.cell? ⟨w.heap.size, 1, none⟩ = some (.slice (some ⟨b, off, none⟩) n cap) ∧ w'.cell? ⟨b, off + j, none⟩ = some (.slice xa xl.length xc) ∧ w'.cell? ⟨b, off + k, none⟩ = some (.slice ya yl.length yc)) (go_keep) (first | (go_at_call 129; refine (hO _ (o0.below ((Below.refl _ _).drew)) (o1.below ((Below.refl _ _).drew))).mono ?_; rintro e w1 ⟨rfl, hb⟩; replace hb := Rw.next ((Below.refl _ _).drew) hb; clear p0 p1; replace hbel := Rw.next hbel hb; replace k0 := (hb.block _ (blk_lt k0)).trans k0; obtain ⟨p0, p1⟩ := two k0; replace A1 := (hb.cell (World.block_lt_of_cell? _ _ A1)).trans A1; replace o1 := Vl.Rd.below o1 hb; replace A0 := (hb.cell (World.block_lt_of_cell? _ _ A0)).trans A0))
              go_wp2
              go_roundw
              case rel => exact ⟨k + 1, by omega, by go_num, hbel, HX.out (by first | rfl | trivial | decide)⟩
              case measure => simp [intOf]; omega
            · have hr1 : (r != -1) = true := by simpa using hr
              rw [decide_eq_false hr] at HB1
              clear hr
              go_wp2
              go_region_held3 (fun w' => w'.cell? ⟨w.heap.size, 0, none⟩ = some (.int .i64 ar) ∧ w'.cell? ⟨w.heap.size, 1, none⟩ = some (.slice (some ⟨b, off, none⟩) n cap) ∧ w'.cell? ⟨b, off + k, none⟩ = some (.slice ya yl.length yc)) (go_keep) (first | (go_at_call 128; refine (hR _ (o1.below ((Below.refl _ _).drew))).mono ?_; rintro e w1 ⟨rfl, hb⟩; replace hb := Rw.next ((Below.refl _ _).drew) hb; clear p0 p1; replace hbel := Rw.next hbel hb; replace k0 := (hb.block _ (blk_lt k0)).trans k0; obtain ⟨p0, p1⟩ := two k0; replace A1 := (hb.cell (World.block_lt_of_cell? _ _ A1)).trans A1; replace o1 := Vl.Rd.below o1 hb; replace A0 := (hb.cell (World.block_lt_of_cell? _ _ A0)).trans A0; replace o0 := Vl.Rd.below o0 hb))
              go_wp2
              go_region_held3 (fun w' => w'.cell? ⟨w.heap.size, 1, none⟩ = some (.slice (some ⟨b, off, none⟩) n cap) ∧ w'.cell? ⟨b, off + j, none⟩ = some (.slice xa xl.length xc) ∧ w'.cell? ⟨b, off + k, none⟩ = some (.slice ya yl.length yc)) (go_keep) (first | (go_at_call 129; refine (hO _ (o0.below ((Below.refl _ _).drew)) (o1.below ((Below.refl _ _).drew))).mono ?_; rintro e w1 ⟨rfl, hb⟩; replace hb := Rw.next ((Below.refl _ _).drew) hb; clear p0 p1; replace hbel := Rw.next hbel hb; replace k0 := (hb.block _ (blk_lt k0)).trans k0; obtain ⟨p0, p1⟩ := two k0; replace A1 := (hb.cell (World.block_lt_of_cell? _ _ A1)).trans A1; replace o1 := Vl.Rd.below o1 hb; replace A0 := (hb.cell (World.block_lt_of_cell? _ _ A0)).trans A0))
              go_wp2
              go_ret
              exact ⟨ret_bool (HB1.out (by first | rfl | trivial)).symm, Rw.next B1 hbel⟩
        · have hd1 : ((yl.length : Int) != ar) = true := by simpa using hd
          rw [decide_eq_false hd, Bool.false_and, Bool.false_and] at HB1
          clear hd
          go_wp2
          go_quiet (fail)
          go_wp2
          go_ret
          exact ⟨ret_bool (HB1.out (by first | rfl | trivial)).symm, Rw.next B1 (below_drewN hbel _)⟩
    · have he : k = n := by omega
      subst he
      go_wp2
      go_ret
      exact ⟨ret_bool (HG.out HP.out).symm, Rw.next B1 hbel⟩

end Go.Proofs.YtkpchlojapkimaaGreat.Rl
