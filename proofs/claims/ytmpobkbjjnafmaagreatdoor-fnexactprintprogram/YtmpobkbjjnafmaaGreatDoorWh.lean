/-
  The program's PrintProgram.
-/
import Derived.Test.YtmpobkbjjnafmaaGreatDoorWg
import Derived.Deep.RegionHeld3
import Derived.Deep.Cut
import Derived.Handy
namespace Go.Proofs.YtmpobkbjjnafmaaGreatDoor.Wp
set_option maxRecDepth 8000
set_option linter.unusedSimpArgs false
set_option linter.unusedVariables false
open Go Go.ChangeShapes Go.WideShapes Go.RowKit
open Num Word Pl
open Pm (Tm tm0 Dc dc0 Lm lm0 Rm rm0 Atm Pg kdTm kdDc kdLm kdRm Rd Sl told AtL LtL RuL PgL termB atomB litB ruleB declB progB)

theorem jn_e {α : Type} (z : α) (f : α → ByteArray) (Q : List α) (k : Nat) : jn z f eS eS Q (k + 1) = jn z f eS eS Q k ++ f (Q.getD k z) := by
  simp only [jn]
  split <;> rw [e_app]
set_option maxHeartbeats 8000000 in
theorem prog1_w (da : Option Addr) (db do_ dc : Nat) (dQ : List Dc) (ra : Option Addr) (rb ro rc : Nat) (rQ : List Rm) (nD nR : Nat) (hnD : nD = dQ.length) (hnR : nR = rQ.length) (w0 : World) (hL : Laid w0) (hD : Rd kdDc 0 w0 ⟨da, db, do_, dc, dQ⟩) (hR : Rd kdRm 0 w0 ⟨ra, rb, ro, rc, rQ⟩)
    (hd16 : nD ≤ 16) (hr24 : nR ≤ 24) (hdB : ∀ i, i < nD → declB (dQ.getD i dc0) = true) (hrB : ∀ i, i < nR → ruleB (rQ.getD i rm0).l = true) :
    WC 18 (.agg #[.slice da nD dc, .slice ra nR rc]) (jn dc0 prD eS eS dQ nD ++ jn (rm0.l) prRn eS eS (told kdRm rQ) nR) w0 := by
  intro B b t w h0 hB hb0 hI hsz
  have HND : Hid (nD = dQ.length) := hnD
  have HNR : Hid (nR = rQ.length) := hnR
  have HD : Hid (Rd kdDc 0 w0 ⟨da, db, do_, dc, dQ⟩) := hD
  have HR : Hid (Rd kdRm 0 w0 ⟨ra, rb, ro, rc, rQ⟩) := hR
  have HDB : Hid (∀ i, i < nD → declB (dQ.getD i dc0) = true) := hdB
  have HRB : Hid (∀ i, i < nR → ruleB (rQ.getD i rm0).l = true) := hrB
  have HL : Hid (Laid w0) := hL
  have HJD : Hid (∀ k, jn dc0 prD eS eS dQ (k + 1) = jn dc0 prD eS eS dQ k ++ prD (dQ.getD k dc0)) := fun k => jn_e _ _ _ _
  have HJR : Hid (∀ k, jn (rm0.l) prRn eS eS (told kdRm rQ) (k + 1) = jn (rm0.l) prRn eS eS (told kdRm rQ) k ++ prRn (rQ.getD k rm0).l) := fun k => by
    rw [jn_e]
    rw [show (told kdRm rQ).getD k rm0.l = (rQ.getD k rm0).l from Pm.told_at (K := kdRm) rQ k]
  have HMD : Hid (∀ k, k ≤ nD → (jn dc0 prD eS eS dQ k).size ≤ (jn dc0 prD eS eS dQ nD).size) := fun k hk => jn_mono hk
  have HMR : Hid (∀ k, k ≤ nR → (jn (rm0.l) prRn eS eS (told kdRm rQ) k).size ≤ (jn (rm0.l) prRn eS eS (told kdRm rQ) nR).size) := fun k hk => jn_mono hk
  have HZ : Hid (t.size + ((jn dc0 prD eS eS dQ nD).size + (jn (rm0.l) prRn eS eS (told kdRm rQ) nR).size) ≤ 1000000000) := by rw [sz] at hsz; exact hsz
  have HB0 : Hid (Below w0.heap.size w0 w) := hb0
  obtain ⟨hBb, ds, fr, hbb⟩ := hI.lt
  have hbl := blk_lt hbb
  have hbx : w.heap.size ≠ b := by omega
  obtain ⟨W1, hW1⟩ : ∃ W1, W1 = w.alloc (.cells #[.slice da nD dc, .slice ra nR rc] 32) := ⟨_, rfl⟩
  have B1 : Below w.heap.size w W1 := by subst hW1; exact below_alloc1 _ _
  have k0 : W1.heap[w.heap.size]? = some (.cells #[.slice da nD dc, .slice ra nR rc] 32 (0, 0)) := by subst hW1; exact at_new rfl
  have WR0 : Wr B b (t ++ jn dc0 prD eS eS dQ 0) w W1 := by
    rw [show t ++ jn dc0 prD eS eS dQ 0 = t from app_e t]; exact Wr.next B1 (Wr.refl (hI.below B1)) hB
  clear hnD hnR hD hR hdB hrB hL hsz hbb hBb hb0 hI
  unfold cv
  go_enter Tryz.func18, Tryz.ntmps18
  go_wp2
  rw [← hW1]
  clear hW1
  go_loopw [11] (fun i wr => ∃ k : Nat, k ≤ nD ∧ i = .int .i64 k ∧ wr.heap[w.heap.size]? = some (.cells #[.slice da nD dc, .slice ra nR rc] 32 (0, 0)) ∧ Wr B b (t ++ jn dc0 prD eS eS dQ k) w wr) (fun i _ => nD - (intOf i).toNat)
  case atStart => exact ⟨0, Nat.zero_le _, rfl, k0, WR0⟩
  case round =>
    obtain ⟨k, hk, rfl, kr, hW⟩ := hrel
    have HW : Hid (Wr B b (t ++ jn dc0 prD eS eS dQ k) w wr) := hW
    clear k0 WR0 B1
    by_cases hlt : k < nD
    · have hkz : (k : Int) < (nD : Int) := by omega
      have hszr := hW.size
      have hb0r := hW.below HB0.out h0
      have hh := HD.out.head (by have := HND.out; simp only; omega)
      obtain ⟨c0, c1, c2⟩ := Pm.cellsDc (HD.out.below hb0r) (i := k) (by have := HND.out; simp only; omega)
      simp only at hh c0 c1 c2
      obtain rfl := hh
      have ht := HDB.out k hlt
      obtain ⟨d1, d2, d3, d4, d5⟩ := decl_parts ht
      have HJ1 : Hid (jn dc0 prD eS eS dQ (k + 1) = jn dc0 prD eS eS dQ k ++ prD (dQ.getD k dc0)) := HJD.out k
      have HM1 := HMD.out (k + 1) hlt
      rw [HJ1.out, sz] at HM1
      clear ht
      generalize dQ.getD k dc0 = y at c0 c1 c2 d1 d2 d3 d4 d5 HJ1 HM1
      obtain ⟨yk, ys, ya⟩ := y
      simp only at c0 c1 c2 d1 d2 d3 d4 d5
      obtain ⟨j, rfl⟩ := Int.eq_ofNat_of_zero_le (show 0 ≤ yk by omega)
      obtain ⟨a, rfl⟩ := Int.eq_ofNat_of_zero_le d4
      have hj1 : 1 ≤ j := by omega
      have hj3 : j ≤ 3 := by omega
      have hji : (0 : Int) ≤ (j : Int) := by omega
      have hji4 : (j : Int) < 4 := by omega
      have ha6 : a ≤ 6 := by omega
      have hP : prD ⟨(j : Int), ys, (a : Int)⟩ = wdN j ++ (spS ++ (ys ++ (⟨#[47]⟩ ++ (txt a ++ ⟨#[46, 10]⟩)))) := by
        unfold prD; simp only [Int.toNat_natCast]
      rw [hP] at HJ1 HM1
      clear hP d1 d2 d4 d5
      obtain ⟨V, hV⟩ : ∃ V, V = wr.alloc (.cells #[.int .i64 j, .string ys, .int .i64 a] 40) := ⟨_, rfl⟩
      have hbV : Below wr.heap.size wr V := by subst hV; exact below_alloc1 _ _
      have kb : V.heap[wr.heap.size]? = some (.cells #[.int .i64 j, .string ys, .int .i64 a] 40 (0, 0)) := by subst hV; exact at_new rfl
      have WV : Wr B b (t ++ jn dc0 prD eS eS dQ k) w V := hW.trans (Wr.next hbV (Wr.refl (hW.1.below hbV)) (Nat.le_trans hB hszr))
      have kV := (hbV.block _ (blk_lt kr)).trans kr
      have LV := HL.out.below (WV.below HB0.out h0)
      have g0 := LV.dw j hj1 hj3
      have HG : Hid (∀ W, Below w0.heap.size w0 W → W.cell? ⟨0, j, none⟩ = some (.string (wdN j))) := fun W h => (HL.out.below h).dw j hj1 hj3
      have hNT := fun W (h : Below w0.heap.size w0 W) => Num.implText_any a (by omega) W (HL.out.below h).tab
      have HS1 : Hid ((t ++ jn dc0 prD eS eS dQ k).size + (wdN j ++ (spS ++ (ys ++ (⟨#[47]⟩ ++ (txt a ++ ⟨#[46, 10]⟩))))).size ≤ 1000000000) := by have := HZ.out; rw [Hid, sz]; omega
      have HE : Hid ((t ++ jn dc0 prD eS eS dQ k) ++ (wdN j ++ (spS ++ (ys ++ (⟨#[47]⟩ ++ (txt a ++ ⟨#[46, 10]⟩))))) = t ++ jn dc0 prD eS eS dQ (k + 1)) := by rw [Hid, HJ1.out, app_assoc]
      clear HM1 LV
      generalize t ++ jn dc0 prD eS eS dQ k = TT at hW HW WV HS1 HE
      generalize wdN j = G at g0 HG HS1 HE
      generalize txt a = NT at hNT HS1 HE
      have hbx2 : wr.heap.size ≠ b := by omega
      go_upto_region 4 with fail
      rw [← hV]
      clear hV c0 c1 c2
      have q0 := one4 (u := .int .i64 j) kb 0 rfl
      have q1 := one4 (u := .string ys) kb 1 rfl
      have q2 := one4 (u := .int .i64 a) kb 2 rfl
      go_region_held3 (fun w' => w'.cell? ⟨wr.heap.size, 0, none⟩ = some (.int .i64 j) ∧ w'.cell? ⟨wr.heap.size, 1, none⟩ = some (.string ys) ∧ w'.cell? ⟨wr.heap.size, 2, none⟩ = some (.int .i64 a) ∧ w'.cell? ⟨0, j, none⟩ = some (.string G)) (go_keep) (first
        | (go_at_call 37; clear q0 q1 q2 g0; have hbd : Below V.heap.size V V.drew := (Below.refl _ _).drew; refine (hNT _ (Rw.next (WV.below HB0.out h0) hbd)).mono ?_; rintro e w2 ⟨rfl, hb⟩; replace hb := Rw.next hbd hb; replace kb := (hb.block _ (blk_lt kb)).trans kb; replace kV := (hb.block _ (blk_lt kV)).trans kV; have W2 := WV.trans (Wr.next hb (Wr.refl (WV.1.below hb)) (Nat.le_trans hB WV.size)); clear hb hbd; have q0 := one4 (u := .int .i64 j) kb 0 rfl; have q1 := one4 (u := .string ys) kb 1 rfl; have q2 := one4 (u := .int .i64 a) kb 2 rfl; have g0 := HG.out _ (W2.below HB0.out h0))
        | (go_at_call 34; clear q0 q1 q2 g0; have hbA := below_alloc1 w2 (.cells #[.string G, .string spS, .string ys, .string ⟨#[47]⟩, .string NT, .string ⟨#[46, 10]⟩] 9); refine (w6_any B b TT G spS ys ⟨#[47]⟩ NT ⟨#[46, 10]⟩ w2.heap.size _ (0, 0) (W2.1.below hbA) (Nat.le_trans hB (Nat.le_trans W2.size hbA.size)) (at_new rfl) HS1.out).mono ?_; rintro e w5 ⟨rfl, hw5⟩; replace kb := kept hw5.2.2 ((hbA.block _ (blk_lt kb)).trans kb) hbx2 (by decide); replace kV := kept hw5.2.2 ((hbA.block _ (blk_lt kV)).trans kV) hbx (by decide); have W5 := W2.trans (Wr.next hbA hw5 (Nat.le_trans hB W2.size)); clear hw5 hbA; have q0 := one4 (u := .int .i64 j) kb 0 rfl; have q1 := one4 (u := .string ys) kb 1 rfl; have q2 := one4 (u := .int .i64 a) kb 2 rfl; have g0 := HG.out _ (W5.below HB0.out h0)))
      rw [HE.out] at W5
      clear q0 q1 q2 g0
      go_wp2
      go_roundw
      case rel => exact ⟨k + 1, by omega, by go_num, kV, W5⟩
      case measure => simp [intOf]; omega
    · have he : k = nD := by omega
      subst he
      have p1 := one4 (u := .slice ra nR rc) kr 1 rfl
      have HWD : Hid (Wr B b ((t ++ jn dc0 prD eS eS dQ k) ++ jn (rm0.l) prRn eS eS (told kdRm rQ) 0) w wr) := by rw [Hid, show (t ++ jn dc0 prD eS eS dQ k) ++ jn (rm0.l) prRn eS eS (told kdRm rQ) 0 = t ++ jn dc0 prD eS eS dQ k from app_e _]; exact HW.out
      have HZ2 : Hid ((t ++ jn dc0 prD eS eS dQ k).size + (jn (rm0.l) prRn eS eS (told kdRm rQ) nR).size ≤ 1000000000) := by have := HZ.out; rw [Hid, sz]; omega
      have HF : Hid ((t ++ jn dc0 prD eS eS dQ k) ++ jn (rm0.l) prRn eS eS (told kdRm rQ) nR = t ++ (jn dc0 prD eS eS dQ k ++ jn (rm0.l) prRn eS eS (told kdRm rQ) nR)) := app_assoc _ _ _
      obtain ⟨wo, hwo⟩ : ∃ wo, wo = wr := ⟨_, rfl⟩
      subst hwo
      clear hW HW HZ HMD HJD HDB HD
      generalize t ++ jn dc0 prD eS eS dQ k = TT at HWD HZ2 HF
      go_wp2
      clear p1
      go_loopw [31] (fun i wr => ∃ k : Nat, k ≤ nR ∧ i = .int .i64 k ∧ Wr B b (TT ++ jn (rm0.l) prRn eS eS (told kdRm rQ) k) w wr) (fun i _ => nR - (intOf i).toNat)
      case atStart => exact ⟨0, Nat.zero_le _, rfl, HWD.out⟩
      case round =>
        obtain ⟨k2, hk2, rfl, hW⟩ := hrel
        have HW : Hid (Wr B b (TT ++ jn (rm0.l) prRn eS eS (told kdRm rQ) k2) w wr) := hW
        by_cases hlt2 : k2 < nR
        · have hkz : (k2 : Int) < (nR : Int) := by omega
          have hszr := hW.size
          have hb0r := hW.below HB0.out h0
          have hh := HR.out.head (by have := HNR.out; simp only; omega)
          have hok : (rQ.getD k2 rm0).Ok 0 w0 := HR.out.ok k2 (by have := HNR.out; simp only; omega)
          obtain ⟨c0, c1, c2, c3⟩ := Pm.cellsRm (HR.out.below hb0r) (i := k2) (by have := HNR.out; simp only; omega)
          simp only at hh c0 c1 c2 c3
          obtain rfl := hh
          have hCk := rule_w _ w0 HL.out hok (HRB.out k2 hlt2)
          have HJ1 : Hid (jn (rm0.l) prRn eS eS (told kdRm rQ) (k2 + 1) = jn (rm0.l) prRn eS eS (told kdRm rQ) k2 ++ prRn (rQ.getD k2 rm0).l) := HJR.out k2
          have HM1 := HMR.out (k2 + 1) hlt2
          rw [HJ1.out, sz] at HM1
          have hPn : prRn (rQ.getD k2 rm0).l = prR (rQ.getD k2 rm0).l ++ ⟨#[10]⟩ := rfl
          rw [hPn] at HJ1 HM1
          rw [sz] at HM1
          clear hPn
          clear hok
          generalize prR (rQ.getD k2 rm0).l = P at hCk HJ1 HM1
          generalize rQ.getD k2 rm0 = y at c0 c1 c2 c3 hCk
          obtain ⟨V, hV⟩ : ∃ V, V = wr.alloc (.cells #[.int .i64 y.k, .string y.h.s, .slice y.h.A.a y.h.A.Q.length y.h.A.c, .slice y.B.a y.B.Q.length y.B.c] 49) := ⟨_, rfl⟩
          have hbV : Below wr.heap.size wr V := by subst hV; exact below_alloc1 _ _
          have WV : Wr B b (TT ++ jn (rm0.l) prRn eS eS (told kdRm rQ) k2) w V := hW.trans (Wr.next hbV (Wr.refl (hW.1.below hbV)) (Nat.le_trans hB hszr))
          have s1 : (⟨#[10]⟩ : ByteArray).size = 1 := rfl
          have HS1 : Hid ((TT ++ jn (rm0.l) prRn eS eS (told kdRm rQ) k2).size + P.size ≤ 1000000000) := by have := HZ2.out; rw [Hid, sz]; omega
          have HS2 : Hid (((TT ++ jn (rm0.l) prRn eS eS (told kdRm rQ) k2) ++ P).size + (⟨#[10]⟩ : ByteArray).size ≤ 1000000000) := by have := HZ2.out; rw [Hid, sz, sz]; omega
          have HE : Hid (((TT ++ jn (rm0.l) prRn eS eS (told kdRm rQ) k2) ++ P) ++ ⟨#[10]⟩ = TT ++ jn (rm0.l) prRn eS eS (told kdRm rQ) (k2 + 1)) := by rw [Hid, HJ1.out]; simp only [app_assoc]
          clear HM1 s1
          generalize TT ++ jn (rm0.l) prRn eS eS (told kdRm rQ) k2 = T2 at hW HW WV HS1 HS2 HE
          have hC1 := hCk B b T2 V h0 (Nat.le_trans hB WV.size) (WV.below HB0.out h0) WV.1 HS1.out
          unfold cv at hC1
          clear hCk
          go_wp2_with (first
            | (go_at_call 38; rw [← hV]; clear hV; refine hC1.mono ?_; rintro e w5 ⟨rfl, hw5⟩; have W5 := WV.trans hw5; clear hw5)
            | (go_at_call 34; have hbA := below_alloc1 w5 (.cells #[.string ⟨#[10]⟩] 9); refine (w1_any B b _ ⟨#[10]⟩ w5.heap.size _ (0, 0) (W5.1.below hbA) (Nat.le_trans hB (Nat.le_trans W5.size hbA.size)) (at_new rfl) HS2.out).mono ?_; rintro e w6 ⟨rfl, hw6⟩; have W6 := W5.trans (Wr.next hbA hw6 (Nat.le_trans hB W5.size))))
          rw [HE.out] at W6
          go_roundw
          case rel => exact ⟨k2 + 1, by omega, by go_num, W6⟩
          case measure => simp [intOf]; omega
        · have he : k2 = nR := by omega
          subst he
          go_wp2
          refine bodyPost_end (v := .tuple #[]) (by simp [results, Tryz.results18, go_sem]) rfl ⟨rfl, by rw [← HF.out]; exact HW.out⟩

theorem prog_w (x : Pg) (w0 : World) (hL : Laid w0) (hx : x.Ok 0 w0) (h : progB x.l = true) : WC 18 (.agg #[.slice x.D.a x.D.Q.length x.D.c, .slice x.R.a x.R.Q.length x.R.c]) (prP x.l) w0 := by
  obtain ⟨h1, h2, h3, h4⟩ := prog_parts h
  have h1' : x.D.Q.length ≤ 16 := h1
  have h3' : x.R.Q.length ≤ 24 := by have q : (told kdRm x.R.Q).length ≤ 24 := h3; rw [Pm.told_len] at q; exact q
  have h4' : ∀ i, i < x.R.Q.length → ruleB (x.R.Q.getD i rm0).l = true := fun i hi => by
    have q : ruleB ((told kdRm x.R.Q).getD i rm0.l) = true := h4 i (by show i < (told kdRm x.R.Q).length; rw [Pm.told_len]; exact hi)
    rw [show (told kdRm x.R.Q).getD i rm0.l = (x.R.Q.getD i rm0).l from Pm.told_at (K := kdRm) x.R.Q i] at q
    exact q
  have hP : prP x.l = jn dc0 prD eS eS x.D.Q x.D.Q.length ++ jn (rm0.l) prRn eS eS (told kdRm x.R.Q) x.R.Q.length := by
    show jn dc0 prD eS eS x.D.Q x.D.Q.length ++ jn (rm0.l) prRn eS eS (told kdRm x.R.Q) (told kdRm x.R.Q).length = _
    rw [Pm.told_len]
  rw [hP]
  exact prog1_w x.D.a x.D.b x.D.o x.D.c x.D.Q x.R.a x.R.b x.R.o x.R.c x.R.Q _ _ rfl rfl w0 hL hx.1 hx.2 h1' h3' h2 h4'

set_option maxHeartbeats 2000000 in
theorem printed_any (x : Pg) (w : World) (hL : Laid w) (hx : x.Ok 0 w) (h : progB x.l = true) : Calls Tryz.prog 17 #[.agg #[.slice x.D.a x.D.Q.length x.D.c, .slice x.R.a x.R.Q.length x.R.c], .func (.func 18) #[] #[]] w fun e w' => e = .returned (.string (prP x.l)) ∧ Below w.heap.size w w' := by
  have hcap := prP_cap h
  obtain ⟨W1, hW1⟩ : ∃ W1, W1 = w.alloc (.cells #[.slice x.D.a x.D.Q.length x.D.c, .slice x.R.a x.R.Q.length x.R.c] 32) := ⟨_, rfl⟩
  have B1 : Below w.heap.size w W1 := by subst hW1; exact below_alloc1 _ _
  have HWS : Hid (w.heap.size + 1 = W1.heap.size) := by subst hW1; simp [Hid]
  obtain ⟨W2, hW2⟩ : ∃ W2, W2 = W1.alloc (.cells #[.pointer none, .slice none 0 0] 84) := ⟨_, rfl⟩
  have B2 : Below W1.heap.size W1 W2 := by subst hW2; exact below_alloc1 _ _
  have hBd : Bd (w.heap.size + 1) (w.heap.size + 1) eS W2 := by
    rw [HWS.out, hW2]
    exact Lib.IsBuilderF.of (Lib.fresh_isBuilder 84 5 W1)
  have k0 : W2.heap[w.heap.size]? = some (.cells #[.slice x.D.a x.D.Q.length x.D.c, .slice x.R.a x.R.Q.length x.R.c] 32 (0, 0)) := by subst hW2; subst hW1; rw [at_old (by simp), at_new rfl]
  have hsz2 : w.heap.size + 1 ≤ W2.heap.size := by have := B2.size; have := HWS.out; omega
  have hC := prog_w x w hL hx h (w.heap.size + 1) (w.heap.size + 1) eS W2 (by omega) hsz2 (Rw.next B1 B2) hBd (by rw [e_size]; omega)
  rw [e_app] at hC
  generalize prP x.l = R at hC hcap ⊢
  have hBS : ∀ W, Wr (w.heap.size + 1) (w.heap.size + 1) R W2 W → Calls Tryz.prog 36 #[.pointer (some ⟨w.heap.size + 1, 0, none⟩)] W fun e w' => e = .returned (.string R) ∧ Below (w.heap.size + 1) W w' := fun W hw => (Tryz.BString (w.heap.size + 1) (w.heap.size + 1) R.data.toList W hw.1 (Nat.le_trans hsz2 hw.size)).mono (by rintro e w' ⟨h, _, h2, _⟩; exact ⟨h, h2⟩)
  have B12 := Rw.next B1 B2
  unfold cv at hC
  clear hL hx h hBd B1 B2 HWS
  go_enter Tryz.func17, Tryz.ntmps17
  rw [hW1] at hW2
  go_wp2_with (first
    | (go_at_call 18; rw [← hW2]; clear hW2 hW1; refine hC.mono ?_; rintro e w5 ⟨rfl, hw5⟩)
    | (go_at_call 36; refine (hBS _ hw5).mono ?_; rintro e w6 ⟨rfl, hb6⟩))
  go_ret
  exact ⟨rfl, (hw5.below B12 (by omega)).trans (hb6.mono (by omega))⟩

/-- What PrintProgram answers. -/
def PRt (p : PgL) : ByteArray := if progB p = true then (if (prP p).size ≤ 6000 then prP p else eS) else eS
def PRb (p : PgL) : Bool := progB p && decide ((prP p).size ≤ 6000)
set_option maxHeartbeats 2000000 in
theorem printI_any (x : Pg) (w : World) (hL : Laid w) (hx : x.Ok 0 w) : Calls Tryz.prog 7 #[.agg #[.slice x.D.a x.D.Q.length x.D.c, .slice x.R.a x.R.Q.length x.R.c]] w fun e w' => e = .returned (.tuple #[.string (PRt x.l), .bool (PRb x.l)]) ∧ Below w.heap.size w w' := by
  have hO := fun W (hb : Below w.heap.size w W) => Pm.progI_any x W (Pm.Pg.Ok.below hx hb)
  have B1 := below_alloc1 w (.cells #[.slice x.D.a x.D.Q.length x.D.c, .slice x.R.a x.R.Q.length x.R.c] 32)
  have hO1 := hO _ B1
  have hP := fun h W (hb : Below w.heap.size w W) => printed_any x W (hL.below hb) (Pm.Pg.Ok.below hx hb) h
  have hcap := fun h => prP_cap (p := x.l) h
  unfold PRt PRb
  clear hO
  obtain ⟨W1, hW1⟩ : ∃ W1, W1 = w.alloc (.cells #[.slice x.D.a x.D.Q.length x.D.c, .slice x.R.a x.R.Q.length x.R.c] 32) := ⟨_, rfl⟩
  have k0 : W1.heap[w.heap.size]? = some (.cells #[.slice x.D.a x.D.Q.length x.D.c, .slice x.R.a x.R.Q.length x.R.c] 32 (0, 0)) := by subst hW1; exact at_new rfl
  rw [← hW1] at B1 hO1
  cases hb : progB x.l with
  | false =>
    rw [hb] at hO1
    clear hP hcap
    simp only [Bool.false_eq_true, if_false, Bool.false_and]
    go_enter Tryz.func7, Tryz.ntmps7
    go_wp2_with (go_at_call 16; rw [← hW1]; clear hW1; refine hO1.mono ?_; rintro e w2 ⟨rfl, hb2⟩)
    refine bodyPost_ret (v := .tuple #[.string eS, .bool false]) (by simp [results, Tryz.results7, go_sem]; rfl) rfl ⟨rfl, Rw.next B1 hb2⟩
  | true =>
    rw [hb] at hO1
    replace hP := hP hb
    replace hcap := hcap hb
    simp only [if_true, Bool.true_and]
    generalize prP x.l = R at hP hcap ⊢
    have t1 : True := trivial
    by_cases hle : R.size ≤ 6000
    · have hz : ¬ (6000 : Int) < (R.size : Int) := by omega
      rw [if_pos hle, decide_eq_true hle]
      go_enter Tryz.func7, Tryz.ntmps7
      go_wp2_with (first
        | (go_at_call 16; rw [← hW1]; clear hW1; refine hO1.mono ?_; rintro e w2 ⟨rfl, hb2⟩; replace k0 := (hb2.block _ (blk_lt k0)).trans k0; replace B1 := Rw.next B1 hb2; clear hb2; obtain ⟨p0, p1⟩ := two k0)
        | (go_at_call 17; refine (hP _ B1).mono ?_; rintro e w3 ⟨rfl, hb3⟩; replace B1 := Rw.next B1 hb3; clear p0 p1))
      refine bodyPost_ret (v := .tuple #[.string R, .bool true]) (by simp [results, Tryz.results7, go_sem]) rfl ⟨rfl, B1⟩
    · have hz : (6000 : Int) < (R.size : Int) := by omega
      rw [if_neg hle, decide_eq_false hle]
      go_enter Tryz.func7, Tryz.ntmps7
      go_wp2_with (first
        | (go_at_call 16; rw [← hW1]; clear hW1; refine hO1.mono ?_; rintro e w2 ⟨rfl, hb2⟩; replace k0 := (hb2.block _ (blk_lt k0)).trans k0; replace B1 := Rw.next B1 hb2; clear hb2; obtain ⟨p0, p1⟩ := two k0)
        | (go_at_call 17; refine (hP _ B1).mono ?_; rintro e w3 ⟨rfl, hb3⟩; replace B1 := Rw.next B1 hb3; clear p0 p1))
      refine bodyPost_ret (v := .tuple #[.string eS, .bool false]) (by simp [results, Tryz.results7, go_sem]; rfl) rfl ⟨rfl, B1⟩

end Go.Proofs.YtmpobkbjjnafmaaGreatDoor.Wp
