/-
  The specification's PrintProgram.
-/
import Derived.Test.YtmpobkbjjnafmaaGreatDoorWh
import Derived.Test.YtmpobkbjjnafmaaGreatDoorWe
namespace Go.Proofs.YtmpobkbjjnafmaaGreatDoor.Wp
set_option maxRecDepth 8000
set_option linter.unusedSimpArgs false
set_option linter.unusedVariables false
open Go Go.ChangeShapes Go.WideShapes Go.RowKit
open Num Word Pl
open Pm (Tm tm0 Dc dc0 Lm lm0 Rm rm0 Atm Pg kdTm kdDc kdLm kdRm Rd Sl told AtL LtL RuL PgL termB atomB litB ruleB declB progB)

set_option maxHeartbeats 8000000 in
theorem printS1 (da : Option Addr) (db do_ dc : Nat) (dQ : List Dc) (ra : Option Addr) (rb ro rc : Nat) (rQ : List Rm) (nD nR : Nat) (hnD : nD = dQ.length) (hnR : nR = rQ.length) (w : World) (hD : Rd kdDc 0 w ⟨da, db, do_, dc, dQ⟩) (hR : Rd kdRm 0 w ⟨ra, rb, ro, rc, rQ⟩)
    (hd16 : nD ≤ 16) (hr24 : nR ≤ 24) (hdB : ∀ i, i < nD → declB (dQ.getD i dc0) = true) (hrB : ∀ i, i < nR → ruleB (rQ.getD i rm0).l = true) (R : ByteArray) (hRe : R = jn dc0 prD eS eS dQ nD ++ jn (rm0.l) prRn eS eS (told kdRm rQ) nR)
    (hO : Calls Tryz.prog 11 #[.agg #[.slice da nD dc, .slice ra nR rc]] (w.alloc (.cells #[.slice da nD dc, .slice ra nR rc] 32)) fun e w' => e = .returned (.bool true) ∧ Below (w.alloc (.cells #[.slice da nD dc, .slice ra nR rc] 32)).heap.size (w.alloc (.cells #[.slice da nD dc, .slice ra nR rc] 32)) w') :
    Calls Tryz.prog 5 #[.agg #[.slice da nD dc, .slice ra nR rc]] w fun e w' => e = .returned (.tuple #[.string (if R.size ≤ 6000 then R else eS), .bool (decide (R.size ≤ 6000))]) ∧ Below w.heap.size w w' := by
  have HND : Hid (nD = dQ.length) := hnD
  have HNR : Hid (nR = rQ.length) := hnR
  have HD : Hid (Rd kdDc 0 w ⟨da, db, do_, dc, dQ⟩) := hD
  have HR : Hid (Rd kdRm 0 w ⟨ra, rb, ro, rc, rQ⟩) := hR
  have HDB : Hid (∀ i, i < nD → declB (dQ.getD i dc0) = true) := hdB
  have HRB : Hid (∀ i, i < nR → ruleB (rQ.getD i rm0).l = true) := hrB
  have HRE : Hid (R = jn dc0 prD eS eS dQ nD ++ jn (rm0.l) prRn eS eS (told kdRm rQ) nR) := hRe
  have HJD : Hid (∀ k, jn dc0 prD eS eS dQ (k + 1) = jn dc0 prD eS eS dQ k ++ prD (dQ.getD k dc0)) := fun k => jn_e _ _ _ _
  have HJR : Hid (∀ k, jn (rm0.l) prRn eS eS (told kdRm rQ) (k + 1) = jn (rm0.l) prRn eS eS (told kdRm rQ) k ++ prRn (rQ.getD k rm0).l) := fun k => by
    rw [jn_e]
    rw [show (told kdRm rQ).getD k rm0.l = (rQ.getD k rm0).l from Pm.told_at (K := kdRm) rQ k]
  have HCD : Hid (∀ k, k ≤ nD → (jn dc0 prD eS eS dQ k).size ≤ 640) := fun k hk => by
    have q := jn_cap (z := dc0) (f := prD) (fst := eS) (sep := eS) (Q := dQ) (c := 40) (d := 0) (by decide) (by decide) (fun i hi => prD_cap (hdB i (by omega))) k (by omega)
    have : k * (40 + 0) ≤ 16 * 40 := Nat.mul_le_mul_right _ (by omega)
    omega
  have HCR : Hid (∀ k, k ≤ nR → (jn (rm0.l) prRn eS eS (told kdRm rQ) k).size ≤ 30000) := fun k hk => by
    have q := jn_cap (z := rm0.l) (f := prRn) (fst := eS) (sep := eS) (Q := told kdRm rQ) (c := 1201) (d := 0) (by decide) (by decide) (fun i hi => by
      have hi' : i < rQ.length := by rw [Pm.told_len] at hi; exact hi
      have := prR_cap (hrB i (by omega))
      have e1 : (⟨#[10]⟩ : ByteArray).size = 1 := rfl
      rw [show (told kdRm rQ).getD i rm0.l = (rQ.getD i rm0).l from Pm.told_at (K := kdRm) rQ i]
      show (prR _ ++ ⟨#[10]⟩ : ByteArray).size ≤ _
      rw [sz]; omega) k (by rw [Pm.told_len]; omega)
    have : k * (1201 + 0) ≤ 24 * 1201 := Nat.mul_le_mul_right _ (by omega)
    omega
  clear hnD hnR hD hR hdB hrB hRe
  obtain ⟨W1, hW1⟩ : ∃ W1, W1 = w.alloc (.cells #[.slice da nD dc, .slice ra nR rc] 32) := ⟨_, rfl⟩
  have B1 : Below w.heap.size w W1 := by subst hW1; exact below_alloc1 _ _
  have k0 : W1.heap[w.heap.size]? = some (.cells #[.slice da nD dc, .slice ra nR rc] 32 (0, 0)) := by subst hW1; exact at_new rfl
  rw [← hW1] at hO
  go_enter Tryz.func5, Tryz.ntmps5
  go_upto_region 4 with (go_at_call 11; rw [← hW1]; clear hW1; refine hO.mono ?_; rintro e w2 ⟨rfl, hb⟩; replace k0 := (hb.block _ (blk_lt k0)).trans k0; replace B1 := Rw.next B1 hb; clear hb)
  have p0 := one4 (u := .slice da nD dc) k0 0 rfl
  go_wp2
  clear p0 hO
  go_loopw [4, 14] (fun o i wr => ∃ (k : Nat) (S : ByteArray), k ≤ nD ∧ o = .string S ∧ i = .int .i64 k ∧ wr.heap[w.heap.size]? = some (.cells #[.slice da nD dc, .slice ra nR rc] 32 (0, 0)) ∧ Below w.heap.size w wr ∧ S = jn dc0 prD eS eS dQ k) (fun _ i _ => nD - (intOf i).toNat)
  case atStart => exact ⟨0, eS, Nat.zero_le _, rfl, rfl, k0, B1, rfl⟩
  case round =>
    obtain ⟨k, S, hk, rfl, rfl, kr, hbel, hS⟩ := hrel
    have HS : Hid (S = jn dc0 prD eS eS dQ k) := hS
    have hsz : S.size ≤ 640 := by have := HCD.out k hk; rw [hS]; exact this
    clear hS k0 B1
    by_cases hlt : k < nD
    · have hkz : (k : Int) < (nD : Int) := by omega
      have hh := HD.out.head (by have := HND.out; simp only; omega)
      obtain ⟨c0, c1, c2⟩ := Pm.cellsDc (HD.out.below hbel) (i := k) (by have := HND.out; simp only; omega)
      simp only at hh c0 c1 c2
      obtain rfl := hh
      obtain ⟨d1, d2, d3, d4, d5⟩ := decl_parts (HDB.out k hlt)
      have HJ1 : Hid (jn dc0 prD eS eS dQ (k + 1) = jn dc0 prD eS eS dQ k ++ prD (dQ.getD k dc0)) := HJD.out k
      generalize dQ.getD k dc0 = y at c0 c1 c2 d1 d2 d3 d4 d5 HJ1
      obtain ⟨yk, ys, ya⟩ := y
      simp only at c0 c1 c2 d1 d2 d3 d4 d5
      obtain ⟨j, rfl⟩ := Int.eq_ofNat_of_zero_le (show 0 ≤ yk by omega)
      obtain ⟨a, rfl⟩ := Int.eq_ofNat_of_zero_le d4
      have hj1 : 1 ≤ j := by omega
      have hj3 : j ≤ 3 := by omega
      have hji : (0 : Int) ≤ (j : Int) := by omega
      have hji4 : (j : Int) < 4 := by omega
      have ha6 : a ≤ 6 := by omega
      have hP : prD ⟨(j : Int), ys, (a : Int)⟩ = wdN j ++ (spS ++ (ys ++ (⟨#[47]⟩ ++ (txt a ++ ⟨#[46, 10]⟩)))) := by
        unfold prD; simp only [Int.toNat_natCast]
      have HV : Hid ((((((S ++ wdN j) ++ ⟨#[32]⟩) ++ ys) ++ ⟨#[47]⟩) ++ txt a) ++ ⟨#[46, 10]⟩ = jn dc0 prD eS eS dQ (k + 1)) := by
        rw [Hid, HJ1.out, hP, HS.out]; simp only [app_assoc]; rfl
      have hgc := wd_cap j
      have hnc := txt_le a (by omega)
      have hNT := fun W => Num.specText_any a (by omega) W
      have hG : ∀ {W : World} {g : Nat}, W.heap[g]? = some (.cells #[.string ⟨#[]⟩, .string ⟨#[115, 116, 97, 116, 101]⟩, .string ⟨#[101, 118, 101, 110, 116]⟩, .string ⟨#[118, 105, 101, 119]⟩] 9 (0, 0)) → W.cell? ⟨g, j, none⟩ = some (.string (wdN j)) := fun h => wd_cell h hj1 hj3
      generalize wdN j = G at hG HV hgc
      generalize txt a = NT at hNT HV hnc
      have z1 : (⟨#[32]⟩ : ByteArray).size = 1 := rfl
      have z2 : (⟨#[47]⟩ : ByteArray).size = 1 := rfl
      have z3 : (⟨#[46, 10]⟩ : ByteArray).size = 2 := rfl
      clear hP d1 d2 d4 d5 HJ1
      obtain ⟨V, hV⟩ : ∃ V, V = wr.alloc (.cells #[.int .i64 j, .string ys, .int .i64 a] 40) := ⟨_, rfl⟩
      have B1 : Below wr.heap.size wr V := by subst hV; exact below_alloc1 _ _
      have k0 : V.heap[wr.heap.size]? = some (.cells #[.int .i64 j, .string ys, .int .i64 a] 40 (0, 0)) := by subst hV; exact at_new rfl
      go_upto_region 7 with fail
      rw [← hV]
      clear hV c0 c1 c2
      refine wp_region_held_drew (S := fun w' => w'.heap[wr.heap.size]? = some (.cells #[.int .i64 j, .string ys, .int .i64 a] 40 (0, 0))) (by kernel_rfl) k0 (fun hHeld => ?_)
      replace B1 := Rw.next B1 ((Below.refl (V).heap.size (V)).drew)
      replace k0 : (V).drew.heap[wr.heap.size]? = some (.cells #[.int .i64 j, .string ys, .int .i64 a] 40 (0, 0)) := k0
      generalize (V).drew = u0 at *
      refine Hn.take (i := 0) (d := some 18) (v := .string S) rfl (by kernel_rfl) (by kernel_rfl) (by kernel_rfl) (by kernel_rfl) (fun _ _ _ h => h) (Or.inl ⟨by rfl, by intro w hSw; go_simp <;> omega⟩) hHeld ?_
      simp only [Act.put, List.setIfInBounds_toArray, List.set_cons_zero, List.set_cons_succ]
      refine Hn.take (i := 2) (d := some 20) (v := .pointer (some ⟨wr.heap.size, 0, none⟩)) rfl (by kernel_rfl) (by kernel_rfl) (by kernel_rfl) (by kernel_rfl) (fun _ _ _ h => h) (Or.inl ⟨by rfl, by intro w hSw; go_simp <;> omega⟩) hHeld ?_
      simp only [Act.put, List.setIfInBounds_toArray, List.set_cons_zero, List.set_cons_succ]
      refine Hn.take (i := 3) (d := some 21) (v := .int .i64 j) rfl (by kernel_rfl) (by kernel_rfl) (by kernel_rfl) (by kernel_rfl) (fun _ _ _ h => h) (Or.inl ⟨by rfl, by intro w hSw; have q0 := one4 (u := .int .i64 j) hSw 0 rfl; go_simp <;> omega⟩) hHeld ?_
      simp only [Act.put, List.setIfInBounds_toArray, List.set_cons_zero, List.set_cons_succ]
      refine Hn.take (i := 8) (d := some 26) (v := .pointer (some ⟨wr.heap.size, 1, none⟩)) rfl (by kernel_rfl) (by kernel_rfl) (by kernel_rfl) (by kernel_rfl) (fun _ _ _ h => h) (Or.inl ⟨by rfl, by intro w hSw; go_simp <;> omega⟩) hHeld ?_
      simp only [Act.put, List.setIfInBounds_toArray, List.set_cons_zero, List.set_cons_succ]
      refine Hn.take (i := 9) (d := some 27) (v := .string ys) rfl (by kernel_rfl) (by kernel_rfl) (by kernel_rfl) (by kernel_rfl) (fun _ _ _ h => h) (Or.inl ⟨by rfl, by intro w hSw; have q1 := one4 (u := .string ys) hSw 1 rfl; go_simp <;> omega⟩) hHeld ?_
      simp only [Act.put, List.setIfInBounds_toArray, List.set_cons_zero, List.set_cons_succ]
      refine Hn.take (i := 12) (d := some 30) (v := .pointer (some ⟨wr.heap.size, 2, none⟩)) rfl (by kernel_rfl) (by kernel_rfl) (by kernel_rfl) (by kernel_rfl) (fun _ _ _ h => h) (Or.inl ⟨by rfl, by intro w hSw; go_simp <;> omega⟩) hHeld ?_
      simp only [Act.put, List.setIfInBounds_toArray, List.set_cons_zero, List.set_cons_succ]
      refine Hn.take (i := 13) (d := some 31) (v := .int .i64 a) rfl (by kernel_rfl) (by kernel_rfl) (by kernel_rfl) (by kernel_rfl) (fun _ _ _ h => h) (Or.inl ⟨by rfl, by intro w hSw; have q2 := one4 (u := .int .i64 a) hSw 2 rfl; go_simp <;> omega⟩) hHeld ?_
      simp only [Act.put, List.setIfInBounds_toArray, List.set_cons_zero, List.set_cons_succ]
      refine wpAnyH_ready (rs := [1, 14]) (by kernel_rfl) (by simp) (Hn.readyRun (i := 1) rfl (by kernel_rfl) (some 19) (by kernel_rfl) (v := .slice (some ⟨(u0).heap.size, 0, none⟩) 4 4) (w' := (u0).alloc (.cells #[.string ⟨#[]⟩, .string ⟨#[115, 116, 97, 116, 101]⟩, .string ⟨#[101, 118, 101, 110, 116]⟩, .string ⟨#[118, 105, 101, 119]⟩] 9)) (exec_wd rfl) ((Pl.below_alloc1 _ _).block _ (Pl.blk_lt k0) ▸ k0) (fun hHeld => ?_) (Hn.call1 (i := 14) rfl (by rfl) 12 (.tmp 31) 3 (by kernel_rfl) 32 (by kernel_rfl) (.int .i64 a) (by kernel_rfl) (fun _ => rfl) (hNT _) ?_ AllReadyH.nil))
      · simp only [Act.put, List.setIfInBounds_toArray, List.set_cons_zero, List.set_cons_succ]
        obtain ⟨u1, hu1⟩ : ∃ W, W = (u0).alloc (.cells #[.string ⟨#[]⟩, .string ⟨#[115, 116, 97, 116, 101]⟩, .string ⟨#[101, 118, 101, 110, 116]⟩, .string ⟨#[118, 105, 101, 119]⟩] 9) := ⟨_, rfl⟩
        rw [← hu1] at hHeld ⊢
        obtain ⟨g1, hg1⟩ : ∃ g, g = (u0).heap.size := ⟨_, rfl⟩
        rw [← hg1]
        have kB : u1.heap[g1]? = some (.cells #[.string ⟨#[]⟩, .string ⟨#[115, 116, 97, 116, 101]⟩, .string ⟨#[101, 118, 101, 110, 116]⟩, .string ⟨#[118, 105, 101, 119]⟩] 9 (0, 0)) := by subst hu1 hg1; exact at_new rfl
        have hb : Below (u0).heap.size (u0) u1 := by subst hu1; exact below_alloc1 _ _
        replace k0 := (hb.block _ (Pl.blk_lt k0)).trans k0
        replace B1 := Rw.next B1 hb
        clear hb hu1 hg1
        refine Hn.take (i := 4) (d := some 22) (v := .pointer (some ⟨g1, j, none⟩)) rfl (by kernel_rfl) (by kernel_rfl) (by kernel_rfl) (by kernel_rfl) (fun _ _ _ h => h) (Or.inl ⟨by rfl, by intro w hSw; go_simp <;> omega⟩) hHeld ?_
        simp only [Act.put, List.setIfInBounds_toArray, List.set_cons_zero, List.set_cons_succ]
        refine wpAnyH_ready (rs := [5, 14]) (by kernel_rfl) (by simp) (Hn.readyRun (i := 5) rfl (by kernel_rfl) (some 23) (by kernel_rfl) (v := .string G) (w' := u1) (by have r := hG kB; go_simp) k0 (fun hHeld => ?_) (Hn.call1 (i := 14) rfl (by rfl) 12 (.tmp 31) 3 (by kernel_rfl) 32 (by kernel_rfl) (.int .i64 a) (by kernel_rfl) (fun _ => rfl) (hNT _) ?_ AllReadyH.nil))
        · simp only [Act.put, List.setIfInBounds_toArray, List.set_cons_zero, List.set_cons_succ]
          refine Hn.take (i := 6) (d := some 24) (v := .string (S ++ G)) rfl (by kernel_rfl) (by kernel_rfl) (by kernel_rfl) (by kernel_rfl) (fun _ _ _ h => h) (Or.inl ⟨by rfl, by intro w hSw; go_simp <;> omega⟩) hHeld ?_
          simp only [Act.put, List.setIfInBounds_toArray, List.set_cons_zero, List.set_cons_succ]
          refine Hn.take (i := 7) (d := some 25) (v := .string ((S ++ G) ++ ⟨#[32]⟩)) rfl (by kernel_rfl) (by kernel_rfl) (by kernel_rfl) (by kernel_rfl) (fun _ _ _ h => h) (Or.inl ⟨by rfl, by intro w hSw; go_simp <;> omega⟩) hHeld ?_
          simp only [Act.put, List.setIfInBounds_toArray, List.set_cons_zero, List.set_cons_succ]
          refine Hn.take (i := 10) (d := some 28) (v := .string (((S ++ G) ++ ⟨#[32]⟩) ++ ys)) rfl (by kernel_rfl) (by kernel_rfl) (by kernel_rfl) (by kernel_rfl) (fun _ _ _ h => h) (Or.inl ⟨by rfl, by intro w hSw; go_simp <;> omega⟩) hHeld ?_
          simp only [Act.put, List.setIfInBounds_toArray, List.set_cons_zero, List.set_cons_succ]
          refine Hn.take (i := 11) (d := some 29) (v := .string ((((S ++ G) ++ ⟨#[32]⟩) ++ ys) ++ ⟨#[47]⟩)) rfl (by kernel_rfl) (by kernel_rfl) (by kernel_rfl) (by kernel_rfl) (fun _ _ _ h => h) (Or.inl ⟨by rfl, by intro w hSw; go_simp <;> omega⟩) hHeld ?_
          simp only [Act.put, List.setIfInBounds_toArray, List.set_cons_zero, List.set_cons_succ]
          refine wpAnyH_ready (rs := [14]) (by kernel_rfl) (by simp) (Hn.call1 (i := 14) rfl (by rfl) 12 (.tmp 31) 3 (by kernel_rfl) 32 (by kernel_rfl) (.int .i64 a) (by kernel_rfl) (fun _ => rfl) (hNT _) ?_ AllReadyH.nil)
          rintro e u2 ⟨rfl, hb⟩
          replace k0 := (hb.block _ (Pl.blk_lt k0)).trans k0
          replace kB := (hb.block _ (Pl.blk_lt kB)).trans kB
          replace B1 := Rw.next B1 hb
          clear hb
          refine ⟨_, rfl, k0, fun hHeld => ?_⟩
          simp only [Act.put, List.setIfInBounds_toArray, List.set_cons_zero, List.set_cons_succ]
          refine Hn.take (i := 15) (d := some 33) (v := .string (((((S ++ G) ++ ⟨#[32]⟩) ++ ys) ++ ⟨#[47]⟩) ++ NT)) rfl (by kernel_rfl) (by kernel_rfl) (by kernel_rfl) (by kernel_rfl) (fun _ _ _ h => h) (Or.inl ⟨by rfl, by intro w hSw; go_simp <;> omega⟩) hHeld ?_
          simp only [Act.put, List.setIfInBounds_toArray, List.set_cons_zero, List.set_cons_succ]
          refine Hn.take (i := 16) (d := some 34) (v := .string ((((((S ++ G) ++ ⟨#[32]⟩) ++ ys) ++ ⟨#[47]⟩) ++ NT) ++ ⟨#[46, 10]⟩)) rfl (by kernel_rfl) (by kernel_rfl) (by kernel_rfl) (by kernel_rfl) (fun _ _ _ h => h) (Or.inl ⟨by rfl, by intro w hSw; go_simp <;> omega⟩) hHeld ?_
          simp only [Act.put, List.setIfInBounds_toArray, List.set_cons_zero, List.set_cons_succ]
          refine Hn.take (i := 17) (d := some 4) (v := .string ((((((S ++ G) ++ ⟨#[32]⟩) ++ ys) ++ ⟨#[47]⟩) ++ NT) ++ ⟨#[46, 10]⟩)) rfl (by kernel_rfl) (by kernel_rfl) (by kernel_rfl) (by kernel_rfl) (fun _ _ _ h => h) (Or.inl ⟨by rfl, by intro w hSw; go_simp <;> omega⟩) hHeld ?_
          simp only [Act.put, List.setIfInBounds_toArray, List.set_cons_zero, List.set_cons_succ]
          refine wpAnyH_done (by kernel_rfl) ?_ _
          have kP := (B1.block _ (blk_lt kr)).trans kr
          have BP := Rw.next hbel B1
          clear k0 B1 hHeld
          go_wp2_with fail
          go_roundw
          case rel => exact ⟨k + 1, _, by omega, rfl, by go_num, kP, BP, HV.out⟩
          case measure => simp [intOf]; omega
        · rintro e u3 ⟨rfl, hb⟩
          replace k0 := (hb.block _ (Pl.blk_lt k0)).trans k0
          replace kB := (hb.block _ (Pl.blk_lt kB)).trans kB
          replace B1 := Rw.next B1 hb
          clear hb
          refine ⟨_, rfl, k0, fun hHeld => ?_⟩
          simp only [Act.put, List.setIfInBounds_toArray, List.set_cons_zero, List.set_cons_succ]
          refine wpAnyH_ready (rs := [5]) (by kernel_rfl) (by simp) (Hn.readyRun (i := 5) rfl (by kernel_rfl) (some 23) (by kernel_rfl) (v := .string G) (w' := u3) (by have r := hG kB; go_simp) k0 (fun hHeld => ?_) AllReadyH.nil)
          simp only [Act.put, List.setIfInBounds_toArray, List.set_cons_zero, List.set_cons_succ]
          refine Hn.take (i := 6) (d := some 24) (v := .string (S ++ G)) rfl (by kernel_rfl) (by kernel_rfl) (by kernel_rfl) (by kernel_rfl) (fun _ _ _ h => h) (Or.inl ⟨by rfl, by intro w hSw; go_simp <;> omega⟩) hHeld ?_
          simp only [Act.put, List.setIfInBounds_toArray, List.set_cons_zero, List.set_cons_succ]
          refine Hn.take (i := 7) (d := some 25) (v := .string ((S ++ G) ++ ⟨#[32]⟩)) rfl (by kernel_rfl) (by kernel_rfl) (by kernel_rfl) (by kernel_rfl) (fun _ _ _ h => h) (Or.inl ⟨by rfl, by intro w hSw; go_simp <;> omega⟩) hHeld ?_
          simp only [Act.put, List.setIfInBounds_toArray, List.set_cons_zero, List.set_cons_succ]
          refine Hn.take (i := 10) (d := some 28) (v := .string (((S ++ G) ++ ⟨#[32]⟩) ++ ys)) rfl (by kernel_rfl) (by kernel_rfl) (by kernel_rfl) (by kernel_rfl) (fun _ _ _ h => h) (Or.inl ⟨by rfl, by intro w hSw; go_simp <;> omega⟩) hHeld ?_
          simp only [Act.put, List.setIfInBounds_toArray, List.set_cons_zero, List.set_cons_succ]
          refine Hn.take (i := 11) (d := some 29) (v := .string ((((S ++ G) ++ ⟨#[32]⟩) ++ ys) ++ ⟨#[47]⟩)) rfl (by kernel_rfl) (by kernel_rfl) (by kernel_rfl) (by kernel_rfl) (fun _ _ _ h => h) (Or.inl ⟨by rfl, by intro w hSw; go_simp <;> omega⟩) hHeld ?_
          simp only [Act.put, List.setIfInBounds_toArray, List.set_cons_zero, List.set_cons_succ]
          refine Hn.take (i := 15) (d := some 33) (v := .string (((((S ++ G) ++ ⟨#[32]⟩) ++ ys) ++ ⟨#[47]⟩) ++ NT)) rfl (by kernel_rfl) (by kernel_rfl) (by kernel_rfl) (by kernel_rfl) (fun _ _ _ h => h) (Or.inl ⟨by rfl, by intro w hSw; go_simp <;> omega⟩) hHeld ?_
          simp only [Act.put, List.setIfInBounds_toArray, List.set_cons_zero, List.set_cons_succ]
          refine Hn.take (i := 16) (d := some 34) (v := .string ((((((S ++ G) ++ ⟨#[32]⟩) ++ ys) ++ ⟨#[47]⟩) ++ NT) ++ ⟨#[46, 10]⟩)) rfl (by kernel_rfl) (by kernel_rfl) (by kernel_rfl) (by kernel_rfl) (fun _ _ _ h => h) (Or.inl ⟨by rfl, by intro w hSw; go_simp <;> omega⟩) hHeld ?_
          simp only [Act.put, List.setIfInBounds_toArray, List.set_cons_zero, List.set_cons_succ]
          refine Hn.take (i := 17) (d := some 4) (v := .string ((((((S ++ G) ++ ⟨#[32]⟩) ++ ys) ++ ⟨#[47]⟩) ++ NT) ++ ⟨#[46, 10]⟩)) rfl (by kernel_rfl) (by kernel_rfl) (by kernel_rfl) (by kernel_rfl) (fun _ _ _ h => h) (Or.inl ⟨by rfl, by intro w hSw; go_simp <;> omega⟩) hHeld ?_
          simp only [Act.put, List.setIfInBounds_toArray, List.set_cons_zero, List.set_cons_succ]
          refine wpAnyH_done (by kernel_rfl) ?_ _
          have kP := (B1.block _ (blk_lt kr)).trans kr
          have BP := Rw.next hbel B1
          clear k0 B1 hHeld
          go_wp2_with fail
          go_roundw
          case rel => exact ⟨k + 1, _, by omega, rfl, by go_num, kP, BP, HV.out⟩
          case measure => simp [intOf]; omega
      · rintro e u4 ⟨rfl, hb⟩
        replace k0 := (hb.block _ (Pl.blk_lt k0)).trans k0
        replace B1 := Rw.next B1 hb
        clear hb
        refine ⟨_, rfl, k0, fun hHeld => ?_⟩
        simp only [Act.put, List.setIfInBounds_toArray, List.set_cons_zero, List.set_cons_succ]
        refine wpAnyH_ready (rs := [1]) (by kernel_rfl) (by simp) (Hn.readyRun (i := 1) rfl (by kernel_rfl) (some 19) (by kernel_rfl) (v := .slice (some ⟨(u4).heap.size, 0, none⟩) 4 4) (w' := (u4).alloc (.cells #[.string ⟨#[]⟩, .string ⟨#[115, 116, 97, 116, 101]⟩, .string ⟨#[101, 118, 101, 110, 116]⟩, .string ⟨#[118, 105, 101, 119]⟩] 9)) (exec_wd rfl) ((Pl.below_alloc1 _ _).block _ (Pl.blk_lt k0) ▸ k0) (fun hHeld => ?_) AllReadyH.nil)
        simp only [Act.put, List.setIfInBounds_toArray, List.set_cons_zero, List.set_cons_succ]
        obtain ⟨u5, hu5⟩ : ∃ W, W = (u4).alloc (.cells #[.string ⟨#[]⟩, .string ⟨#[115, 116, 97, 116, 101]⟩, .string ⟨#[101, 118, 101, 110, 116]⟩, .string ⟨#[118, 105, 101, 119]⟩] 9) := ⟨_, rfl⟩
        rw [← hu5] at hHeld ⊢
        obtain ⟨g5, hg5⟩ : ∃ g, g = (u4).heap.size := ⟨_, rfl⟩
        rw [← hg5]
        have kB : u5.heap[g5]? = some (.cells #[.string ⟨#[]⟩, .string ⟨#[115, 116, 97, 116, 101]⟩, .string ⟨#[101, 118, 101, 110, 116]⟩, .string ⟨#[118, 105, 101, 119]⟩] 9 (0, 0)) := by subst hu5 hg5; exact at_new rfl
        have hb : Below (u4).heap.size (u4) u5 := by subst hu5; exact below_alloc1 _ _
        replace k0 := (hb.block _ (Pl.blk_lt k0)).trans k0
        replace B1 := Rw.next B1 hb
        clear hb hu5 hg5
        refine Hn.take (i := 4) (d := some 22) (v := .pointer (some ⟨g5, j, none⟩)) rfl (by kernel_rfl) (by kernel_rfl) (by kernel_rfl) (by kernel_rfl) (fun _ _ _ h => h) (Or.inl ⟨by rfl, by intro w hSw; go_simp <;> omega⟩) hHeld ?_
        simp only [Act.put, List.setIfInBounds_toArray, List.set_cons_zero, List.set_cons_succ]
        refine wpAnyH_ready (rs := [5]) (by kernel_rfl) (by simp) (Hn.readyRun (i := 5) rfl (by kernel_rfl) (some 23) (by kernel_rfl) (v := .string G) (w' := u5) (by have r := hG kB; go_simp) k0 (fun hHeld => ?_) AllReadyH.nil)
        simp only [Act.put, List.setIfInBounds_toArray, List.set_cons_zero, List.set_cons_succ]
        refine Hn.take (i := 6) (d := some 24) (v := .string (S ++ G)) rfl (by kernel_rfl) (by kernel_rfl) (by kernel_rfl) (by kernel_rfl) (fun _ _ _ h => h) (Or.inl ⟨by rfl, by intro w hSw; go_simp <;> omega⟩) hHeld ?_
        simp only [Act.put, List.setIfInBounds_toArray, List.set_cons_zero, List.set_cons_succ]
        refine Hn.take (i := 7) (d := some 25) (v := .string ((S ++ G) ++ ⟨#[32]⟩)) rfl (by kernel_rfl) (by kernel_rfl) (by kernel_rfl) (by kernel_rfl) (fun _ _ _ h => h) (Or.inl ⟨by rfl, by intro w hSw; go_simp <;> omega⟩) hHeld ?_
        simp only [Act.put, List.setIfInBounds_toArray, List.set_cons_zero, List.set_cons_succ]
        refine Hn.take (i := 10) (d := some 28) (v := .string (((S ++ G) ++ ⟨#[32]⟩) ++ ys)) rfl (by kernel_rfl) (by kernel_rfl) (by kernel_rfl) (by kernel_rfl) (fun _ _ _ h => h) (Or.inl ⟨by rfl, by intro w hSw; go_simp <;> omega⟩) hHeld ?_
        simp only [Act.put, List.setIfInBounds_toArray, List.set_cons_zero, List.set_cons_succ]
        refine Hn.take (i := 11) (d := some 29) (v := .string ((((S ++ G) ++ ⟨#[32]⟩) ++ ys) ++ ⟨#[47]⟩)) rfl (by kernel_rfl) (by kernel_rfl) (by kernel_rfl) (by kernel_rfl) (fun _ _ _ h => h) (Or.inl ⟨by rfl, by intro w hSw; go_simp <;> omega⟩) hHeld ?_
        simp only [Act.put, List.setIfInBounds_toArray, List.set_cons_zero, List.set_cons_succ]
        refine Hn.take (i := 15) (d := some 33) (v := .string (((((S ++ G) ++ ⟨#[32]⟩) ++ ys) ++ ⟨#[47]⟩) ++ NT)) rfl (by kernel_rfl) (by kernel_rfl) (by kernel_rfl) (by kernel_rfl) (fun _ _ _ h => h) (Or.inl ⟨by rfl, by intro w hSw; go_simp <;> omega⟩) hHeld ?_
        simp only [Act.put, List.setIfInBounds_toArray, List.set_cons_zero, List.set_cons_succ]
        refine Hn.take (i := 16) (d := some 34) (v := .string ((((((S ++ G) ++ ⟨#[32]⟩) ++ ys) ++ ⟨#[47]⟩) ++ NT) ++ ⟨#[46, 10]⟩)) rfl (by kernel_rfl) (by kernel_rfl) (by kernel_rfl) (by kernel_rfl) (fun _ _ _ h => h) (Or.inl ⟨by rfl, by intro w hSw; go_simp <;> omega⟩) hHeld ?_
        simp only [Act.put, List.setIfInBounds_toArray, List.set_cons_zero, List.set_cons_succ]
        refine Hn.take (i := 17) (d := some 4) (v := .string ((((((S ++ G) ++ ⟨#[32]⟩) ++ ys) ++ ⟨#[47]⟩) ++ NT) ++ ⟨#[46, 10]⟩)) rfl (by kernel_rfl) (by kernel_rfl) (by kernel_rfl) (by kernel_rfl) (fun _ _ _ h => h) (Or.inl ⟨by rfl, by intro w hSw; go_simp <;> omega⟩) hHeld ?_
        simp only [Act.put, List.setIfInBounds_toArray, List.set_cons_zero, List.set_cons_succ]
        refine wpAnyH_done (by kernel_rfl) ?_ _
        have kP := (B1.block _ (blk_lt kr)).trans kr
        have BP := Rw.next hbel B1
        clear k0 B1 hHeld
        go_wp2_with fail
        go_roundw
        case rel => exact ⟨k + 1, _, by omega, rfl, by go_num, kP, BP, HV.out⟩
        case measure => simp [intOf]; omega
    · have he : k = nD := by omega
      subst he
      have p1 := one4 (u := .slice ra nR rc) kr 1 rfl
      have HX : Hid (S = S ++ jn (rm0.l) prRn eS eS (told kdRm rQ) 0) := (app_e S).symm
      have HRS : Hid (R = S ++ jn (rm0.l) prRn eS eS (told kdRm rQ) nR) := by rw [Hid, HRE.out, HS.out]
      obtain ⟨wo, hwo⟩ : ∃ wo, wo = wr := ⟨_, rfl⟩
      subst hwo
      obtain ⟨S0, hS0⟩ : ∃ S0, S0 = S := ⟨_, rfl⟩
      subst hS0
      clear HS HRE HD HDB HCD HJD
      go_wp2
      clear p1
      go_loopw [4, 39] (fun o i wr => ∃ (m : Nat) (S : ByteArray), m ≤ nR ∧ o = .string S ∧ i = .int .i64 m ∧ wr.heap[w.heap.size]? = some (.cells #[.slice da k dc, .slice ra nR rc] 32 (0, 0)) ∧ Below w.heap.size w wr ∧ S = S0 ++ jn (rm0.l) prRn eS eS (told kdRm rQ) m) (fun _ i _ => nR - (intOf i).toNat)
      case atStart => exact ⟨0, S0, Nat.zero_le _, rfl, rfl, kr, hbel, HX.out⟩
      case round =>
        rename_i hwpr
        obtain ⟨k2, S, hk2, rfl, rfl, kr2, hbel2, hS⟩ := hrel
        have HS : Hid (S = S0 ++ jn (rm0.l) prRn eS eS (told kdRm rQ) k2) := hS
        have hsz2 : S.size ≤ 31000 := by have := HCR.out k2 hk2; rw [hS, sz]; omega
        clear hS kr hbel
        by_cases hlt2 : k2 < nR
        · have hkz : (k2 : Int) < (nR : Int) := by omega
          have hh := HR.out.head (by have := HNR.out; simp only; omega)
          have hok : (rQ.getD k2 rm0).Ok 0 w := HR.out.ok k2 (by have := HNR.out; simp only; omega)
          obtain ⟨c0, c1, c2, c3⟩ := Pm.cellsRm (HR.out.below hbel2) (i := k2) (by have := HNR.out; simp only; omega)
          simp only at hh c0 c1 c2 c3
          obtain rfl := hh
          have p1 := one4 (u := .slice (some ⟨rb, ro, none⟩) nR rc) kr2 1 rfl
          have hU1 := ruleS_pr (rQ.getD k2 rm0) wr (Pm.ok_below (K := kdRm) hok hbel2) (HRB.out k2 hlt2)
          have hpc := prR_cap (HRB.out k2 hlt2)
          have hPn : prRn (rQ.getD k2 rm0).l = prR (rQ.getD k2 rm0).l ++ ⟨#[10]⟩ := rfl
          have HV : Hid ((S ++ prR (rQ.getD k2 rm0).l) ++ ⟨#[10]⟩ = S0 ++ jn (rm0.l) prRn eS eS (told kdRm rQ) (k2 + 1)) := by
            rw [Hid, HJR.out k2, HS.out, hPn]; simp only [app_assoc]
          clear hPn hok
          generalize prR (rQ.getD k2 rm0).l = P at hU1 hpc HV
          generalize rQ.getD k2 rm0 = y at c0 c1 c2 c3 hU1
          have z1 : (⟨#[10]⟩ : ByteArray).size = 1 := rfl
          obtain ⟨S2, hS2⟩ : ∃ S2, S2 = S ++ P := ⟨_, rfl⟩
          have hszS2 : S2.size ≤ 33000 := by rw [hS2, sz]; omega
          rw [← hS2] at HV
          go_wp2_with (go_at_call 13; refine hU1.mono ?_; rintro e w1 ⟨rfl, hb⟩; replace kr2 := (hb.block _ (blk_lt kr2)).trans kr2; replace hbel2 := Rw.next hbel2 hb; clear hb)
          rw [← hS2]
          go_roundw
          case rel => exact ⟨k2 + 1, _, by omega, rfl, by go_num, kr2, hbel2, HV.out⟩
          case measure => simp [intOf]; omega
        · have he : k2 = nR := by omega
          subst he
          have hRS : R = S := by rw [HRS.out, HS.out]
          subst hRS
          by_cases hle : R.size ≤ 6000
          · have hz : ¬ (6000 : Int) < (R.size : Int) := by omega
            go_wp2
            refine bodyPost_ret (v := .tuple #[.string R, .bool true]) (by simp [results, Tryz.results5, go_sem]) rfl ⟨by first | rfl | rw [if_pos hle, decide_eq_true hle], hbel2⟩
          · have hz : (6000 : Int) < (R.size : Int) := by omega
            go_wp2
            refine bodyPost_ret (v := .tuple #[.string eS, .bool false]) (by simp [results, Tryz.results5, go_sem]; rfl) rfl ⟨by first | rfl | rw [if_neg hle, decide_eq_false hle], hbel2⟩

set_option maxHeartbeats 2000000 in
theorem printS_any (x : Pg) (w : World) (hx : x.Ok 0 w) : Calls Tryz.prog 5 #[.agg #[.slice x.D.a x.D.Q.length x.D.c, .slice x.R.a x.R.Q.length x.R.c]] w fun e w' => e = .returned (.tuple #[.string (PRt x.l), .bool (PRb x.l)]) ∧ Below w.heap.size w w' := by
  have hO1 := Pm.progS_any x _ (Pm.Pg.Ok.below hx (below_alloc1 w (.cells #[.slice x.D.a x.D.Q.length x.D.c, .slice x.R.a x.R.Q.length x.R.c] 32)))
  unfold PRt PRb
  cases hb : progB x.l with
  | false =>
    rw [hb] at hO1
    have B1 := below_alloc1 w (.cells #[.slice x.D.a x.D.Q.length x.D.c, .slice x.R.a x.R.Q.length x.R.c] 32)
    obtain ⟨W1, hW1⟩ : ∃ W1, W1 = w.alloc (.cells #[.slice x.D.a x.D.Q.length x.D.c, .slice x.R.a x.R.Q.length x.R.c] 32) := ⟨_, rfl⟩
    have k0 : W1.heap[w.heap.size]? = some (.cells #[.slice x.D.a x.D.Q.length x.D.c, .slice x.R.a x.R.Q.length x.R.c] 32 (0, 0)) := by subst hW1; exact at_new rfl
    rw [← hW1] at B1 hO1
    simp only [Bool.false_eq_true, if_false, Bool.false_and]
    go_enter Tryz.func5, Tryz.ntmps5
    go_wp2_with (go_at_call 11; rw [← hW1]; clear hW1; refine hO1.mono ?_; rintro e w2 ⟨rfl, hb2⟩)
    refine bodyPost_ret (v := .tuple #[.string eS, .bool false]) (by simp [results, Tryz.results5, go_sem]; rfl) rfl ⟨rfl, Rw.next B1 hb2⟩
  | true =>
    rw [hb] at hO1
    simp only [if_true, Bool.true_and]
    obtain ⟨h1, h2, h3, h4⟩ := prog_parts hb
    have h1' : x.D.Q.length ≤ 16 := h1
    have h3' : x.R.Q.length ≤ 24 := by have q : (told kdRm x.R.Q).length ≤ 24 := h3; rw [Pm.told_len] at q; exact q
    have h4' : ∀ i, i < x.R.Q.length → ruleB (x.R.Q.getD i rm0).l = true := fun i hi => by
      have q : ruleB ((told kdRm x.R.Q).getD i rm0.l) = true := h4 i (by show i < (told kdRm x.R.Q).length; rw [Pm.told_len]; exact hi)
      rw [show (told kdRm x.R.Q).getD i rm0.l = (x.R.Q.getD i rm0).l from Pm.told_at (K := kdRm) x.R.Q i] at q
      exact q
    have hP : prP x.l = jn dc0 prD eS eS x.D.Q x.D.Q.length ++ jn (rm0.l) prRn eS eS (told kdRm x.R.Q) x.R.Q.length := by
      show jn dc0 prD eS eS x.D.Q x.D.Q.length ++ jn (rm0.l) prRn eS eS (told kdRm x.R.Q) (told kdRm x.R.Q).length = _
      rw [Pm.told_len]
    exact printS1 x.D.a x.D.b x.D.o x.D.c x.D.Q x.R.a x.R.b x.R.o x.R.c x.R.Q _ _ rfl rfl w hx.1 hx.2 h1' h3' h2 h4' (prP x.l) hP hO1

end Go.Proofs.YtmpobkbjjnafmaaGreatDoor.Wp
