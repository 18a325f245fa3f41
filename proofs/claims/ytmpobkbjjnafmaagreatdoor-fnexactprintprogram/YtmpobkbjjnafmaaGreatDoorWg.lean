/-
  The program's writers of literals and rules.
-/
import Derived.Test.YtmpobkbjjnafmaaGreatDoorWf
namespace Go.Proofs.YtmpobkbjjnafmaaGreatDoor.Wp
set_option maxRecDepth 8000
set_option linter.unusedSimpArgs false
set_option linter.unusedVariables false
open Go Go.ChangeShapes Go.WideShapes Go.RowKit
open Num Word Pl
open Pm (Tm tm0 Dc dc0 Lm lm0 Rm rm0 Atm Pg kdTm kdDc kdLm kdRm Rd Sl told AtL LtL RuL PgL termB atomB litB ruleB declB progB)

theorem four {w : World} {g : Nat} {a b c d : Value} {t : TypeId} {fr : Nat × Nat} (h : w.heap[g]? = some (.cells #[a, b, c, d] t fr)) : w.cell? ⟨g, 0, none⟩ = some a ∧ w.cell? ⟨g, 1, none⟩ = some b ∧ w.cell? ⟨g, 2, none⟩ = some c ∧ w.cell? ⟨g, 3, none⟩ = some d := by
  simp [World.cell?, h]
theorem pK_1 {x : Lm} (h : x.k = 1) : prK x.l = prA x.h.l := by
  show (if x.k = 1 then prA x.h.l else _) = _
  rw [if_pos h]
theorem pK_2 {x : Lm} (h : x.k = 2) : prK x.l = notS ++ prA x.h.l := by
  show (if x.k = 1 then _ else if x.k = 2 then notS ++ prA x.h.l else _) = _
  rw [if_neg (by omega), if_pos h]
theorem pK_3 {x : Lm} (h : x.k = 3) : prK x.l = prT x.p ++ ((spS ++ (sgN x.op.toNat ++ spS)) ++ prT x.q) := by
  show (if x.k = 1 then _ else if x.k = 2 then _ else prT x.p ++ ((spS ++ (sgN x.op.toNat ++ spS)) ++ prT x.q)) = _
  rw [if_neg (by omega), if_neg (by omega)]
set_option maxHeartbeats 4000000 in
theorem listLm_w (s : Sl Lm) (fst : ByteArray) (hf : fst.size ≤ 10) (w0 : World) (hs : Rd kdLm 0 w0 s) (hC : ∀ i, i < s.Q.length → ∀ x, x = s.Q.getD i lm0 → WC 63 (.agg #[.int .i64 x.k, .string x.h.s, .slice x.h.A.a x.h.A.Q.length x.h.A.c, .int .i64 x.op, .string x.p.v, .int .i64 x.p.n, .string x.p.s, .string x.q.v, .int .i64 x.q.n, .string x.q.s]) (prK x.l) w0) (hn100 : s.Q.length ≤ 100)
    (B b : Nat) (t : ByteArray) (w : World) (h0 : w0.heap.size ≤ B) (hB : B ≤ w.heap.size) (hb0 : Below w0.heap.size w0 w) (hI : Bd B b t w) (hsz : t.size + (jn (lm0.l) prK fst cS (told kdLm s.Q) s.Q.length).size ≤ 1000000000) :
    Calls Tryz.prog 62 #[cv b, .string fst, .slice s.a s.Q.length s.c, .func (.func 63) #[] #[]] w fun e w' => e = .returned (.tuple #[]) ∧ Wr B b (t ++ jn (lm0.l) prK fst cS (told kdLm s.Q) s.Q.length) w w' := by
  obtain ⟨sa, sb, so, sc, sQ⟩ := s
  simp only at hC hn100 hsz ⊢
  obtain ⟨n, hn0⟩ : ∃ n, n = sQ.length := ⟨_, rfl⟩
  have HN : Hid (n = sQ.length) := hn0
  rw [← hn0] at hC hn100 hsz ⊢
  have HS : Hid (Rd kdLm 0 w0 ⟨sa, sb, so, sc, sQ⟩) := hs
  have HC : Hid (∀ i, i < n → ∀ x, x = sQ.getD i lm0 → WC 63 (.agg #[.int .i64 x.k, .string x.h.s, .slice x.h.A.a x.h.A.Q.length x.h.A.c, .int .i64 x.op, .string x.p.v, .int .i64 x.p.n, .string x.p.s, .string x.q.v, .int .i64 x.q.n, .string x.q.s]) (prK x.l) w0) := hC
  have HJ : Hid (∀ k, jn (lm0.l) prK fst cS (told kdLm sQ) (k + 1) = jn (lm0.l) prK fst cS (told kdLm sQ) k ++ ((if k = 0 then fst else cS) ++ prK (sQ.getD k lm0).l)) := fun k => by
    simp only [jn]
    rw [show (told kdLm sQ).getD k lm0.l = (sQ.getD k lm0).l from Pm.told_at (K := kdLm) sQ k]
  have HM : Hid (∀ k, k ≤ n → (jn (lm0.l) prK fst cS (told kdLm sQ) k).size ≤ (jn (lm0.l) prK fst cS (told kdLm sQ) n).size) := fun k hk => jn_mono hk
  have HZ : Hid (t.size + (jn (lm0.l) prK fst cS (told kdLm sQ) n).size ≤ 1000000000) := hsz
  obtain ⟨hBb, ds, fr, hbb⟩ := hI.lt
  have hbl := blk_lt hbb
  have H0 : Hid (Wr B b (t ++ jn (lm0.l) prK fst cS (told kdLm sQ) 0) w w) := by
    rw [Hid, show t ++ jn (lm0.l) prK fst cS (told kdLm sQ) 0 = t from app_e t]; exact Wr.refl hI
  have HB0 : Hid (Below w0.heap.size w0 w) := hb0
  clear hn0 hs hC hsz hI hbb hb0 hBb
  unfold cv
  go_enter Tryz.func62, Tryz.ntmps62
  go_wp2
  go_loopw [1, 12] (fun a i wr => ∃ (k : Nat) (A : ByteArray), k ≤ n ∧ a = .string A ∧ A = (if k = 0 then fst else cS) ∧ i = .int .i64 k ∧ Wr B b (t ++ jn (lm0.l) prK fst cS (told kdLm sQ) k) w wr) (fun _ i _ => n - (intOf i).toNat)
  case atStart => exact ⟨0, fst, Nat.zero_le _, rfl, rfl, rfl, H0.out⟩
  case round =>
    obtain ⟨k, A, hk, rfl, hA, rfl, hW⟩ := hrel
    have HW : Hid (Wr B b (t ++ jn (lm0.l) prK fst cS (told kdLm sQ) k) w wr) := hW
    by_cases hlt : k < n
    · have hkz : (k : Int) < (n : Int) := by omega
      have hszr := hW.size
      have hb0r := hW.below HB0.out h0
      have hA10 : A.size ≤ 10 := by rw [hA]; split <;> first | exact hf | decide
      have HJ1 : Hid (jn (lm0.l) prK fst cS (told kdLm sQ) (k + 1) = jn (lm0.l) prK fst cS (told kdLm sQ) k ++ (A ++ prK (sQ.getD k lm0).l)) := by rw [Hid, hA]; exact HJ.out k
      have HM1 := HM.out (k + 1) hlt
      rw [HJ1.out, sz, sz] at HM1
      have hh := HS.out.head (by have := HN.out; simp only; omega)
      obtain ⟨c0, c1, c2, c3, c4, c5, c6, c7, c8, c9⟩ := Pm.cellsLm (HS.out.below hb0r) (i := k) (by have := HN.out; simp only; omega)
      simp only at hh c0 c1 c2 c3 c4 c5 c6 c7 c8 c9
      obtain rfl := hh
      have hCk := HC.out k hlt _ rfl
      clear hA
      generalize prK (sQ.getD k lm0).l = P at hCk HJ1 HM1
      generalize sQ.getD k lm0 = y at c0 c1 c2 c3 c4 c5 c6 c7 c8 c9 hCk
      obtain ⟨V, hV⟩ : ∃ V, V = wr.alloc (.cells #[.int .i64 y.k, .string y.h.s, .slice y.h.A.a y.h.A.Q.length y.h.A.c, .int .i64 y.op, .string y.p.v, .int .i64 y.p.n, .string y.p.s, .string y.q.v, .int .i64 y.q.n, .string y.q.s] 76) := ⟨_, rfl⟩
      have hbV : Below wr.heap.size wr V := by subst hV; exact below_alloc1 _ _
      have kb : V.heap[wr.heap.size]? = some (.cells #[.int .i64 y.k, .string y.h.s, .slice y.h.A.a y.h.A.Q.length y.h.A.c, .int .i64 y.op, .string y.p.v, .int .i64 y.p.n, .string y.p.s, .string y.q.v, .int .i64 y.q.n, .string y.q.s] 76 (0, 0)) := by subst hV; exact at_new rfl
      have lV := blk_lt kb
      have HWS : Hid (wr.heap.size + 1 = V.heap.size) := by subst hV; simp [Hid]
      have hbx : wr.heap.size ≠ b := by omega
      have HS1 : Hid ((t ++ jn (lm0.l) prK fst cS (told kdLm sQ) k).size + A.size ≤ 1000000000) := by have := HZ.out; rw [Hid, sz]; omega
      have HS2 : Hid (((t ++ jn (lm0.l) prK fst cS (told kdLm sQ) k) ++ A).size + P.size ≤ 1000000000) := by have := HZ.out; rw [Hid, sz, sz]; omega
      have HE : Hid (((t ++ jn (lm0.l) prK fst cS (told kdLm sQ) k) ++ A) ++ P = t ++ jn (lm0.l) prK fst cS (told kdLm sQ) (k + 1)) := by rw [Hid, HJ1.out]; simp only [app_assoc]
      clear HM1
      generalize t ++ jn (lm0.l) prK fst cS (told kdLm sQ) k = T at hW HW HS1 HS2 HE
      have t1 : True := trivial
      go_wp2_with (first
        | (go_at_call 34; clear t1; rw [← hV]; have hbA := below_alloc1 V (.cells #[.string A] 9); refine (w1_any B b T A (wr.heap.size + 1) _ (0, 0) ((hW.1.below hbV).below hbA) (Nat.le_trans hB (Nat.le_trans hszr (Nat.le_trans hbV.size hbA.size))) (at_new HWS.out) HS1.out).mono ?_; rintro e w5 ⟨rfl, hw5⟩; have kb5 := kept hw5.2.2 ((hbA.block _ (blk_lt kb)).trans kb) hbx (by decide); have W5 := HW.out.trans (Wr.next (Rw.next hbV hbA) hw5 (Nat.le_trans hB hszr)); clear hw5 hbA hV; have q0 := one4 (u := .int .i64 y.k) kb5 0 rfl; have q1 := one4 (u := .string y.h.s) kb5 1 rfl; have q2 := one4 (u := .slice y.h.A.a y.h.A.Q.length y.h.A.c) kb5 2 rfl; have q3 := one4 (u := .int .i64 y.op) kb5 3 rfl; have q4 := one4 (u := .string y.p.v) kb5 4 rfl; have q5 := one4 (u := .int .i64 y.p.n) kb5 5 rfl; have q6 := one4 (u := .string y.p.s) kb5 6 rfl; have q7 := one4 (u := .string y.q.v) kb5 7 rfl; have q8 := one4 (u := .int .i64 y.q.n) kb5 8 rfl; have q9 := one4 (u := .string y.q.s) kb5 9 rfl)
        | (go_at_call 63; clear q0 q1 q2 q3 q4 q5 q6 q7 q8 q9; refine (hCk B b _ _ h0 (Nat.le_trans hB W5.size) (W5.below HB0.out h0) W5.1 HS2.out).mono ?_; rintro e w6 ⟨rfl, hw6⟩; have W6 := W5.trans hw6))
      rw [HE.out] at W6
      go_roundw
      case rel => exact ⟨k + 1, cS, by omega, rfl, by simp, by go_num, W6⟩
      case measure => simp [intOf]; omega
    · have he : k = n := by omega
      subst he
      clear hA
      go_wp2
      refine bodyPost_end (v := .tuple #[]) (by simp [results, Tryz.results62, go_sem]) rfl ⟨rfl, HW.out⟩

set_option maxHeartbeats 2000000 in
theorem lit1_w (xh : Atm) (xo : Int) (xp xq : Tm) (w0 : World) (hA : WC 61 (.agg #[.string xh.s, .slice xh.A.a xh.A.Q.length xh.A.c]) (prA xh.l) w0) : WC 63 (.agg #[.int .i64 1, .string xh.s, .slice xh.A.a xh.A.Q.length xh.A.c, .int .i64 xo, .string xp.v, .int .i64 xp.n, .string xp.s, .string xq.v, .int .i64 xq.n, .string xq.s]) (prA xh.l) w0 := by
  intro B b t w h0 hB hb0 hI hsz
  generalize prA xh.l = P at hA hsz ⊢
  obtain ⟨W1, hW1⟩ : ∃ W1, W1 = w.alloc (.cells #[.int .i64 1, .string xh.s, .slice xh.A.a xh.A.Q.length xh.A.c, .int .i64 xo, .string xp.v, .int .i64 xp.n, .string xp.s, .string xq.v, .int .i64 xq.n, .string xq.s] 76) := ⟨_, rfl⟩
  have B1 : Below w.heap.size w W1 := by subst hW1; exact below_alloc1 _ _
  have k0 : W1.heap[w.heap.size]? = some (.cells #[.int .i64 1, .string xh.s, .slice xh.A.a xh.A.Q.length xh.A.c, .int .i64 xo, .string xp.v, .int .i64 xp.n, .string xp.s, .string xq.v, .int .i64 xq.n, .string xq.s] 76 (0, 0)) := by subst hW1; exact at_new rfl
  have HWS : Hid (w.heap.size + 1 = W1.heap.size) := by subst hW1; simp [Hid]
  have hA1 := hA B b t W1 h0 (Nat.le_trans hB B1.size) (Rw.next hb0 B1) (hI.below B1) hsz
  unfold cv at hA1 ⊢
  clear k0 HWS
  go_enter Tryz.func63, Tryz.ntmps63
  go_wp2_with (go_at_call 61; rw [← hW1]; clear hW1; refine hA1.mono ?_; rintro e w5 ⟨rfl, hw5⟩; have W5 := Wr.next B1 hw5 hB)
  refine bodyPost_end (v := .tuple #[]) (by simp [results, Tryz.results63, go_sem]) rfl ⟨rfl, W5⟩
set_option maxHeartbeats 2000000 in
theorem lit2_w (xh : Atm) (xo : Int) (xp xq : Tm) (w0 : World) (hA : WC 61 (.agg #[.string xh.s, .slice xh.A.a xh.A.Q.length xh.A.c]) (prA xh.l) w0) : WC 63 (.agg #[.int .i64 2, .string xh.s, .slice xh.A.a xh.A.Q.length xh.A.c, .int .i64 xo, .string xp.v, .int .i64 xp.n, .string xp.s, .string xq.v, .int .i64 xq.n, .string xq.s]) (notS ++ prA xh.l) w0 := by
  intro B b t w h0 hB hb0 hI hsz
  generalize prA xh.l = P at hA hsz ⊢
  obtain ⟨W1, hW1⟩ : ∃ W1, W1 = w.alloc (.cells #[.int .i64 2, .string xh.s, .slice xh.A.a xh.A.Q.length xh.A.c, .int .i64 xo, .string xp.v, .int .i64 xp.n, .string xp.s, .string xq.v, .int .i64 xq.n, .string xq.s] 76) := ⟨_, rfl⟩
  have B1 : Below w.heap.size w W1 := by subst hW1; exact below_alloc1 _ _
  have k0 : W1.heap[w.heap.size]? = some (.cells #[.int .i64 2, .string xh.s, .slice xh.A.a xh.A.Q.length xh.A.c, .int .i64 xo, .string xp.v, .int .i64 xp.n, .string xp.s, .string xq.v, .int .i64 xq.n, .string xq.s] 76 (0, 0)) := by subst hW1; exact at_new rfl
  have HWS : Hid (w.heap.size + 1 = W1.heap.size) := by subst hW1; simp [Hid]
  rw [sz] at hsz
  have s1 : notS.size = 4 := rfl
  have z1 : t.size + notS.size ≤ 1000000000 := by omega
  have z2 : (t ++ notS).size + P.size ≤ 1000000000 := by rw [sz]; omega
  have HE : Hid ((t ++ notS) ++ P = t ++ (notS ++ P)) := app_assoc _ _ _
  obtain ⟨hBb, ds, fr, hbb⟩ := hI.lt
  have hbl := blk_lt hbb
  have hbx : w.heap.size ≠ b := by omega
  clear hbb hBb hsz s1
  unfold cv
  go_enter Tryz.func63, Tryz.ntmps63
  go_wp2_with (first
    | (go_at_call 34; rw [← hW1]; clear hW1; have hbA := below_alloc1 W1 (.cells #[.string notS] 9); refine (w1_any B b t notS (w.heap.size + 1) _ (0, 0) ((hI.below B1).below hbA) (Nat.le_trans hB (Nat.le_trans B1.size hbA.size)) (at_new HWS.out) z1).mono ?_; rintro e w5 ⟨rfl, hw5⟩; replace k0 := kept hw5.2.2 ((hbA.block _ (blk_lt k0)).trans k0) hbx (by decide); have W5 := Wr.next (Rw.next B1 hbA) hw5 hB; clear hw5 hbA; have q1 := one4 (u := .string xh.s) k0 1 rfl; have q2 := one4 (u := .slice xh.A.a xh.A.Q.length xh.A.c) k0 2 rfl)
    | (go_at_call 61; clear q1 q2; refine (hA B b _ _ h0 (Nat.le_trans hB W5.size) (W5.below hb0 h0) W5.1 z2).mono ?_; rintro e w6 ⟨rfl, hw6⟩; have W6 := W5.trans hw6))
  rw [HE.out] at W6
  refine bodyPost_end (v := .tuple #[]) (by simp [results, Tryz.results63, go_sem]) rfl ⟨rfl, W6⟩
set_option maxHeartbeats 4000000 in
theorem lit3_w (xh : Atm) (j : Nat) (hj1 : 1 ≤ j) (hj4 : j ≤ 4) (xp xq : Tm) (w0 : World) (hL : Laid w0) (hA : WC 84 (.agg #[.string xp.v, .int .i64 xp.n, .string xp.s]) (prT xp) w0) (hC : WC 84 (.agg #[.string xq.v, .int .i64 xq.n, .string xq.s]) (prT xq) w0) : WC 63 (.agg #[.int .i64 3, .string xh.s, .slice xh.A.a xh.A.Q.length xh.A.c, .int .i64 j, .string xp.v, .int .i64 xp.n, .string xp.s, .string xq.v, .int .i64 xq.n, .string xq.s]) (prT xp ++ ((spS ++ (sgN j ++ spS)) ++ prT xq)) w0 := by
  intro B b t w h0 hB hb0 hI hsz
  generalize prT xp = PA at hA hsz ⊢
  generalize prT xq = PB at hC hsz ⊢
  obtain ⟨W1, hW1⟩ : ∃ W1, W1 = w.alloc (.cells #[.int .i64 3, .string xh.s, .slice xh.A.a xh.A.Q.length xh.A.c, .int .i64 j, .string xp.v, .int .i64 xp.n, .string xp.s, .string xq.v, .int .i64 xq.n, .string xq.s] 76) := ⟨_, rfl⟩
  have B1 : Below w.heap.size w W1 := by subst hW1; exact below_alloc1 _ _
  have k0 : W1.heap[w.heap.size]? = some (.cells #[.int .i64 3, .string xh.s, .slice xh.A.a xh.A.Q.length xh.A.c, .int .i64 j, .string xp.v, .int .i64 xp.n, .string xp.s, .string xq.v, .int .i64 xq.n, .string xq.s] 76 (0, 0)) := by subst hW1; exact at_new rfl
  have HWS : Hid (w.heap.size + 1 = W1.heap.size) := by subst hW1; simp [Hid]
  have hji : (0 : Int) ≤ (j : Int) := by omega
  have hji5 : (j : Int) < 5 := by omega
  have z1 : t.size + PA.size ≤ 1000000000 := by rw [sz] at hsz; omega
  have z2 : (t ++ PA).size + (spS ++ (sgN j ++ spS)).size ≤ 1000000000 := by rw [sz, sz] at hsz; rw [sz]; omega
  have z3 : ((t ++ PA) ++ (spS ++ (sgN j ++ spS))).size + PB.size ≤ 1000000000 := by rw [sz, sz] at hsz; rw [sz, sz]; omega
  have HE : Hid (((t ++ PA) ++ (spS ++ (sgN j ++ spS))) ++ PB = t ++ (PA ++ ((spS ++ (sgN j ++ spS)) ++ PB))) := by rw [Hid]; simp only [app_assoc]
  obtain ⟨hBb, ds, fr, hbb⟩ := hI.lt
  have hbl := blk_lt hbb
  have hbx : w.heap.size ≠ b := by omega
  have HG : Hid (∀ W, Below w0.heap.size w0 W → W.cell? ⟨2, j, none⟩ = some (.string (sgN j))) := fun W h => (hL.below h).os j hj1 hj4
  generalize sgN j = G at z2 z3 HE HG ⊢
  have hA1 := hA B b t W1 h0 (Nat.le_trans hB B1.size) (Rw.next hb0 B1) (hI.below B1) z1
  clear hbb hBb hsz hA hL HWS
  unfold cv at hA1 ⊢
  have t1 : True := trivial
  go_enter Tryz.func63, Tryz.ntmps63
  go_wp2_with (first
    | (go_at_call 84; clear t1; rw [← hW1]; clear hW1; refine hA1.mono ?_; rintro e w5 ⟨rfl, hw5⟩; replace k0 := kept hw5.2.2 k0 hbx (by decide); have W5 := Wr.next B1 hw5 hB; clear hw5 hA1; have g := HG.out _ (W5.below hb0 h0); have q3 := one4 (u := .int .i64 j) k0 3 rfl)
    | (go_at_call 34; clear g q3; have hbA := below_alloc1 w5 (.cells #[.string spS, .string G, .string spS] 9); refine (w3_any B b _ spS G spS w5.heap.size _ (0, 0) (W5.1.below hbA) (Nat.le_trans hB (Nat.le_trans W5.size hbA.size)) (at_new rfl) z2).mono ?_; rintro e w6 ⟨rfl, hw6⟩; replace k0 := kept hw6.2.2 ((hbA.block _ (blk_lt k0)).trans k0) hbx (by decide); have W6 := W5.trans (Wr.next hbA hw6 (Nat.le_trans hB W5.size)); clear hw6 hbA; have q7 := one4 (u := .string xq.v) k0 7 rfl; have q8 := one4 (u := .int .i64 xq.n) k0 8 rfl; have q9 := one4 (u := .string xq.s) k0 9 rfl)
    | (go_at_call 84; clear q7 q8 q9; refine (hC B b _ _ h0 (Nat.le_trans hB W6.size) (W6.below hb0 h0) W6.1 z3).mono ?_; rintro e w7 ⟨rfl, hw7⟩; have W7 := W6.trans hw7))
  rw [HE.out] at W7
  refine bodyPost_end (v := .tuple #[]) (by simp [results, Tryz.results63, go_sem]) rfl ⟨rfl, W7⟩
theorem lit_w (x : Lm) (w0 : World) (hL : Laid w0) (hx : x.Ok 0 w0) (h : litB x.l = true) : WC 63 (.agg #[.int .i64 x.k, .string x.h.s, .slice x.h.A.a x.h.A.Q.length x.h.A.c, .int .i64 x.op, .string x.p.v, .int .i64 x.p.n, .string x.p.s, .string x.q.v, .int .i64 x.q.n, .string x.q.s]) (prK x.l) w0 := by
  have hp := lit_parts h
  have e1 := pK_1 (x := x)
  have e2 := pK_2 (x := x)
  have e3 := pK_3 (x := x)
  generalize prK x.l = R at e1 e2 e3 ⊢
  obtain ⟨xk, xh, xo, xp, xq⟩ := x
  have hxh : xh.Ok 0 w0 := hx.1
  have hxp : xp.Ok := hx.2.1
  have hxq : xq.Ok := hx.2.2
  clear hx h
  simp only [Pm.Lm.l] at hp e1 e2 e3 ⊢
  rcases hp with ⟨rfl, h1, h2, h3, h4⟩ | ⟨hk, h1⟩
  · rw [e3 rfl]
    obtain ⟨j, rfl⟩ := Int.eq_ofNat_of_zero_le (show 0 ≤ xo by omega)
    rw [Int.toNat_natCast]
    exact lit3_w xh j (by omega) (by omega) xp xq w0 hL (term_w xp w0 hL hxp h1) (term_w xq w0 hL hxq h2)
  · rcases hk with rfl | rfl
    · rw [e1 rfl]
      exact lit1_w xh xo xp xq w0 (atom_w xh w0 hL hxh h1)
    · rw [e2 rfl]
      exact lit2_w xh xo xp xq w0 (atom_w xh w0 hL hxh h1)

set_option maxHeartbeats 4000000 in
theorem rule1_w (j : Nat) (hj1 : 1 ≤ j) (hj3 : j ≤ 3) (xh : Atm) (ba : Option Addr) (bc : Nat) (bQ : List Lm) (J : ByteArray) (w0 : World) (hL : Laid w0) (hA : WC 61 (.agg #[.string xh.s, .slice xh.A.a xh.A.Q.length xh.A.c]) (prA xh.l) w0)
    (hC : ∀ (B b : Nat) (t : ByteArray) (w : World), w0.heap.size ≤ B → B ≤ w.heap.size → Below w0.heap.size w0 w → Bd B b t w → t.size + J.size ≤ 1000000000 → Calls Tryz.prog 62 #[cv b, .string ⟨#[32, 58, 45, 32]⟩, .slice ba bQ.length bc, .func (.func 63) #[] #[]] w fun e w' => e = .returned (.tuple #[]) ∧ Wr B b (t ++ J) w w') :
    WC 38 (.agg #[.int .i64 j, .string xh.s, .slice xh.A.a xh.A.Q.length xh.A.c, .slice ba bQ.length bc]) (kdN j ++ (prA xh.l ++ (J ++ ⟨#[46]⟩))) w0 := by
  intro B b t w h0 hB hb0 hI hsz
  generalize prA xh.l = P at hA hsz ⊢
  obtain ⟨W1, hW1⟩ : ∃ W1, W1 = w.alloc (.cells #[.int .i64 j, .string xh.s, .slice xh.A.a xh.A.Q.length xh.A.c, .slice ba bQ.length bc] 49) := ⟨_, rfl⟩
  have B1 : Below w.heap.size w W1 := by subst hW1; exact below_alloc1 _ _
  have k0 : W1.heap[w.heap.size]? = some (.cells #[.int .i64 j, .string xh.s, .slice xh.A.a xh.A.Q.length xh.A.c, .slice ba bQ.length bc] 49 (0, 0)) := by subst hW1; exact at_new rfl
  have HWS : Hid (w.heap.size + 1 = W1.heap.size) := by subst hW1; simp [Hid]
  have hji : (0 : Int) ≤ (j : Int) := by omega
  have hji4 : (j : Int) < 4 := by omega
  have g0 := (hL.below (Rw.next hb0 B1)).rs j hj1 hj3
  generalize kdN j = G at hsz g0 ⊢
  simp only [sz] at hsz
  have s1 : (⟨#[46]⟩ : ByteArray).size = 1 := rfl
  have z1 : t.size + G.size ≤ 1000000000 := by omega
  have z2 : (t ++ G).size + P.size ≤ 1000000000 := by rw [sz]; omega
  have z3 : ((t ++ G) ++ P).size + J.size ≤ 1000000000 := by rw [sz, sz]; omega
  have z4 : (((t ++ G) ++ P) ++ J).size + (⟨#[46]⟩ : ByteArray).size ≤ 1000000000 := by rw [sz, sz, sz]; omega
  have HE : Hid ((((t ++ G) ++ P) ++ J) ++ ⟨#[46]⟩ = t ++ (G ++ (P ++ (J ++ ⟨#[46]⟩)))) := by rw [Hid]; simp only [app_assoc]
  obtain ⟨hBb, ds, fr, hbb⟩ := hI.lt
  have hbl := blk_lt hbb
  have hbx : w.heap.size ≠ b := by omega
  clear hbb hBb hsz s1 hL
  unfold cv at hC ⊢
  have t1 : True := trivial
  go_enter Tryz.func38, Tryz.ntmps38
  rw [hW1] at g0
  go_wp2_with (first
    | (go_at_call 34; clear t1 g0; rw [← hW1]; clear hW1; have hbA := below_alloc1 W1 (.cells #[.string G] 9); refine (w1_any B b t G (w.heap.size + 1) _ (0, 0) ((hI.below B1).below hbA) (Nat.le_trans hB (Nat.le_trans B1.size hbA.size)) (at_new HWS.out) z1).mono ?_; rintro e w5 ⟨rfl, hw5⟩; replace k0 := kept hw5.2.2 ((hbA.block _ (blk_lt k0)).trans k0) hbx (by decide); have W5 := Wr.next (Rw.next B1 hbA) hw5 hB; clear hw5 hbA; obtain ⟨p0, p1, p2, p3⟩ := four k0)
    | (go_at_call 61; clear p0 p1 p2 p3; refine (hA B b _ _ h0 (Nat.le_trans hB W5.size) (W5.below hb0 h0) W5.1 z2).mono ?_; rintro e w6 ⟨rfl, hw6⟩; replace k0 := kept hw6.2.2 k0 hbx (by decide); have W6 := W5.trans hw6; clear hw6; obtain ⟨p0, p1, p2, p3⟩ := four k0)
    | (go_at_call 62; clear p0 p1 p2 p3; refine (hC B b _ _ h0 (Nat.le_trans hB W6.size) (W6.below hb0 h0) W6.1 z3).mono ?_; rintro e w7 ⟨rfl, hw7⟩; have W7 := W6.trans hw7; clear hw7)
    | (go_at_call 34; have hbA := below_alloc1 w7 (.cells #[.string ⟨#[46]⟩] 9); refine (w1_any B b _ ⟨#[46]⟩ w7.heap.size _ (0, 0) (W7.1.below hbA) (Nat.le_trans hB (Nat.le_trans W7.size hbA.size)) (at_new rfl) z4).mono ?_; rintro e w8 ⟨rfl, hw8⟩; have W8 := W7.trans (Wr.next hbA hw8 (Nat.le_trans hB W7.size))))
  rw [HE.out] at W8
  refine bodyPost_end (v := .tuple #[]) (by simp [results, Tryz.results38, go_sem]) rfl ⟨rfl, W8⟩
theorem rule_w (x : Rm) (w0 : World) (hL : Laid w0) (hx : x.Ok 0 w0) (h : ruleB x.l = true) : WC 38 (.agg #[.int .i64 x.k, .string x.h.s, .slice x.h.A.a x.h.A.Q.length x.h.A.c, .slice x.B.a x.B.Q.length x.B.c]) (prR x.l) w0 := by
  obtain ⟨h1, h2, h3, h4, h5⟩ := rule_parts h
  have h1' : 1 ≤ x.k := h1
  have h2' : x.k ≤ 3 := h2
  have h4' : x.B.Q.length ≤ 8 := by have q : (told kdLm x.B.Q).length ≤ 8 := h4; rw [Pm.told_len] at q; exact q
  have h5' : ∀ i, i < x.B.Q.length → litB (x.B.Q.getD i lm0).l = true := fun i hi => by
    have q : litB ((told kdLm x.B.Q).getD i lm0.l) = true := h5 i (by show i < (told kdLm x.B.Q).length; rw [Pm.told_len]; exact hi)
    rw [show (told kdLm x.B.Q).getD i lm0.l = (x.B.Q.getD i lm0).l from Pm.told_at (K := kdLm) x.B.Q i] at q
    exact q
  have hLs := listLm_w x.B ⟨#[32, 58, 45, 32]⟩ (by decide) w0 hx.2 (fun i hi y hy => by rw [hy]; exact lit_w _ w0 hL (hx.2.ok i hi) (h5' i hi)) (by omega)
  have hR : prR x.l = kdN x.k.toNat ++ (prA x.h.l ++ (jn (lm0.l) prK ⟨#[32, 58, 45, 32]⟩ cS (told kdLm x.B.Q) x.B.Q.length ++ ⟨#[46]⟩)) := by
    show kdN x.k.toNat ++ (prA x.h.l ++ (jn (lm0.l) prK ⟨#[32, 58, 45, 32]⟩ cS (told kdLm x.B.Q) (told kdLm x.B.Q).length ++ ⟨#[46]⟩)) = _
    rw [Pm.told_len]
  rw [hR]
  have hA := atom_w x.h w0 hL hx.1 h3
  obtain ⟨xk, xh, ⟨ba, bb, bo, bc, bQ⟩⟩ := x
  simp only at h1' h2' hA hLs ⊢
  obtain ⟨j, rfl⟩ := Int.eq_ofNat_of_zero_le (show 0 ≤ xk by omega)
  rw [Int.toNat_natCast]
  exact rule1_w j (by omega) (by omega) xh ba bc bQ _ w0 hL hA hLs

end Go.Proofs.YtmpobkbjjnafmaaGreatDoor.Wp
