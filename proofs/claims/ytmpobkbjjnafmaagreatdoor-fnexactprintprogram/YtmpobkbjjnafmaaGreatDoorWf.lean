/-
  The program's writers of terms, lists and atoms.
-/
import Derived.Test.YtmpobkbjjnafmaaGreatDoorWb
import Derived.Test.YtmpobkbjjnafmaaGreatDoorPrg
import Derived.Lib.SmallJoins
import Derived.Lib.LaidTab
namespace Go.Proofs.YtmpobkbjjnafmaaGreatDoor.Wp
set_option maxRecDepth 8000
set_option linter.unusedSimpArgs false
set_option linter.unusedVariables false
open Go Go.ChangeShapes Go.WideShapes Go.RowKit
open Num Word Pl
open Vl (valB)
open Pm (Tm tm0 Dc dc0 Lm lm0 Rm rm0 Atm Pg kdTm kdDc kdLm kdRm Rd Sl told AtL LtL RuL PgL termB atomB litB ruleB declB progB)

theorem one4 {w : World} {g : Nat} {cs : Array Value} {t : TypeId} {u : Value} (h : w.heap[g]? = some (.cells cs t (0, 0))) (j : Nat) (hj : cs[j]? = some u) : w.cell? ⟨g, j, none⟩ = some u := Pm.blk_cell h j hj
theorem gPow : Tryz.prog.globalNamed "internal/strconv.uint64pow10" = some 3 := by kernel_rfl
/-- What the walk is told of variables. -/
structure Laid (w : World) : Prop where
  tab : Lib.TabIs Tryz.prog w "internal/strconv.uint64pow10" .u64 Lib.pow10Tab
  dw : ∀ k, 1 ≤ k → k ≤ 3 → w.cell? ⟨0, k, none⟩ = some (.string (wdN k))
  rs : ∀ k, 1 ≤ k → k ≤ 3 → w.cell? ⟨1, k, none⟩ = some (.string (kdN k))
  os : ∀ k, 1 ≤ k → k ≤ 4 → w.cell? ⟨2, k, none⟩ = some (.string (sgN k))
theorem Laid.below {w w' : World} (h : Laid w) (hb : Below w.heap.size w w') : Laid w' :=
  ⟨Joins.var_stays gPow h.tab hb (Nat.le_refl _), fun k h1 h3 => (hb.cell (World.block_lt_of_cell? _ _ (h.dw k h1 h3))).trans (h.dw k h1 h3), fun k h1 h3 => (hb.cell (World.block_lt_of_cell? _ _ (h.rs k h1 h3))).trans (h.rs k h1 h3), fun k h1 h3 => (hb.cell (World.block_lt_of_cell? _ _ (h.os k h1 h3))).trans (h.os k h1 h3)⟩
/-- A writer: what it writes behind what there is. -/
def WC (f : FuncId) (x : Value) (out : ByteArray) (w0 : World) : Prop := ∀ (B b : Nat) (t : ByteArray) (w : World), w0.heap.size ≤ B → B ≤ w.heap.size → Below w0.heap.size w0 w → Bd B b t w → t.size + out.size ≤ 1000000000 →
  Calls Tryz.prog f #[cv b, x] w fun e w' => e = .returned (.tuple #[]) ∧ Wr B b (t ++ out) w w'
theorem ct1 (s : ByteArray) : ctB [s] [s].length = s := by
  show ctB [s] 1 = s
  rw [ctB_step]; exact e_app s
theorem ct2 (s u : ByteArray) : ctB [s, u] [s, u].length = s ++ u := by
  show ctB [s, u] 2 = s ++ u
  rw [ctB_step, ctB_step]
  show (eS ++ s) ++ u = s ++ u
  rw [e_app]
theorem ct3 (s u v : ByteArray) : ctB [s, u, v] [s, u, v].length = s ++ (u ++ v) := by
  show ctB [s, u, v] 3 = s ++ (u ++ v)
  rw [ctB_step, ctB_step, ctB_step]
  show ((eS ++ s) ++ u) ++ v = s ++ (u ++ v)
  rw [e_app, app_assoc]
theorem ct6 (s u v x y z : ByteArray) : ctB [s, u, v, x, y, z] [s, u, v, x, y, z].length = s ++ (u ++ (v ++ (x ++ (y ++ z)))) := by
  show ctB [s, u, v, x, y, z] 6 = _
  rw [ctB_step, ctB_step, ctB_step, ctB_step, ctB_step, ctB_step]
  show (((((eS ++ s) ++ u) ++ v) ++ x) ++ y) ++ z = s ++ (u ++ (v ++ (x ++ (y ++ z))))
  simp only [e_app, app_assoc]
theorem w1_any (B b : Nat) (t s : ByteArray) (pb : Nat) (w : World) (fr : Nat × Nat) (hI : Bd B b t w) (hB : B ≤ w.heap.size) (hp : w.heap[pb]? = some (.cells #[.string s] 9 fr)) (hsz : t.size + s.size ≤ 1000000000) :
    Calls Tryz.prog 34 #[.slice (some ⟨pb, 0, none⟩) 1 1, .pointer (some ⟨b, 0, none⟩)] w fun e w' => e = .returned (.tuple #[]) ∧ Wr B b (t ++ s) w w' := by
  have q := clo_any B b t [s] pb 1 w fr hI hB hp (by rw [ct1]; exact hsz) (by simp)
  rw [ct1] at q; exact q
theorem w2_any (B b : Nat) (t s u : ByteArray) (pb : Nat) (w : World) (fr : Nat × Nat) (hI : Bd B b t w) (hB : B ≤ w.heap.size) (hp : w.heap[pb]? = some (.cells #[.string s, .string u] 9 fr)) (hsz : t.size + (s ++ u).size ≤ 1000000000) :
    Calls Tryz.prog 34 #[.slice (some ⟨pb, 0, none⟩) 2 2, .pointer (some ⟨b, 0, none⟩)] w fun e w' => e = .returned (.tuple #[]) ∧ Wr B b (t ++ (s ++ u)) w w' := by
  have q := clo_any B b t [s, u] pb 2 w fr hI hB hp (by rw [ct2]; exact hsz) (by simp)
  rw [ct2] at q; exact q
theorem w3_any (B b : Nat) (t s u v : ByteArray) (pb : Nat) (w : World) (fr : Nat × Nat) (hI : Bd B b t w) (hB : B ≤ w.heap.size) (hp : w.heap[pb]? = some (.cells #[.string s, .string u, .string v] 9 fr)) (hsz : t.size + (s ++ (u ++ v)).size ≤ 1000000000) :
    Calls Tryz.prog 34 #[.slice (some ⟨pb, 0, none⟩) 3 3, .pointer (some ⟨b, 0, none⟩)] w fun e w' => e = .returned (.tuple #[]) ∧ Wr B b (t ++ (s ++ (u ++ v))) w w' := by
  have q := clo_any B b t [s, u, v] pb 3 w fr hI hB hp (by rw [ct3]; exact hsz) (by simp)
  rw [ct3] at q; exact q
theorem w6_any (B b : Nat) (t s u v x y z : ByteArray) (pb : Nat) (w : World) (fr : Nat × Nat) (hI : Bd B b t w) (hB : B ≤ w.heap.size) (hp : w.heap[pb]? = some (.cells #[.string s, .string u, .string v, .string x, .string y, .string z] 9 fr)) (hsz : t.size + (s ++ (u ++ (v ++ (x ++ (y ++ z))))).size ≤ 1000000000) :
    Calls Tryz.prog 34 #[.slice (some ⟨pb, 0, none⟩) 6 6, .pointer (some ⟨b, 0, none⟩)] w fun e w' => e = .returned (.tuple #[]) ∧ Wr B b (t ++ (s ++ (u ++ (v ++ (x ++ (y ++ z)))))) w w' := by
  have q := clo_any B b t [s, u, v, x, y, z] pb 6 w fr hI hB hp (by rw [ct6]; exact hsz) (by simp)
  rw [ct6] at q; exact q

theorem numText_any (n : Int) (w : World) (hn : Vl.numB n = true) (hL : Laid w) :
    Calls Tryz.prog 137 #[.int .i64 n] w fun e w' => e = .returned (.string (txt n.toNat)) ∧ Below w.heap.size w w' := by
  unfold Vl.numB at hn
  have hr := of_decide_eq_true hn
  obtain ⟨k, rfl⟩ := Int.eq_ofNat_of_zero_le hr.1
  have hk : k ≤ 281474976710655 := by omega
  have hT := hL.tab
  clear hL hn hr
  rw [Int.toNat_natCast]
  go_enter Tryz.func137, Tryz.ntmps137
  go_wp2_with (go_at_call 37; refine (Num.implText_any _ hk _ hT).mono ?_; rintro e w1 ⟨rfl, hb⟩)
  go_ret
  exact ⟨rfl, hb⟩
theorem wordText_any (s : ByteArray) (w : World) : Calls Tryz.prog 138 #[.string s] w fun e w' => e = .returned (.string s) ∧ w' = w := by
  go_enter Tryz.func138, Tryz.ntmps138
  go_wp2
  go_ret
  exact ⟨rfl, rfl⟩
set_option maxHeartbeats 1000000 in
theorem vtI_any (n : Int) (s : ByteArray) (w : World) (hv : valB (n, s) = true) (hs : s.size ≤ maxLen) (hL : Laid w) :
    Calls Tryz.prog 99 #[.agg #[.int .i64 n, .string s]] w fun e w' => e = .returned (.string (vtx n s)) ∧ Below w.heap.size w w' := by
  have B := below_alloc1 w (.cells #[.int .i64 n, .string s] 72)
  have hd := Vl.datum_any (n, s) (w.alloc (.cells #[.int .i64 n, .string s] 72)) hs
  replace hL := hL.below B
  unfold Vl.datV at hd
  unfold vtx
  rw [hv] at hd
  simp only [if_true] at hd ⊢
  cases he : s.toList.isEmpty with
  | true =>
    have hn : Vl.numB n = true := by unfold Vl.valB at hv; simpa [he] using hv
    rw [he] at hd
    simp only [if_true] at hd ⊢
    go_enter Tryz.func99, Tryz.ntmps99
    go_wp2_with (first
      | (go_at_call 107; refine hd.mono ?_; rintro e w1 ⟨rfl, hb⟩; replace hL := hL.below hb; replace B := Rw.next B hb; clear hb)
      | (go_at_call 137; refine (numText_any _ _ hn hL).mono ?_; rintro e w2 ⟨rfl, hb⟩))
    go_ret
    exact ⟨rfl, Rw.next B hb⟩
  | false =>
    rw [he] at hd
    simp only [Bool.false_eq_true, if_false] at hd ⊢
    go_enter Tryz.func99, Tryz.ntmps99
    go_wp2_with (first
      | (go_at_call 107; refine hd.mono ?_; rintro e w1 ⟨rfl, hb⟩; replace hL := hL.below hb; replace B := Rw.next B hb; clear hb)
      | (go_at_call 138; refine (wordText_any _ _).mono ?_; rintro e w2 ⟨rfl, hw⟩; replace hw := hw.symm; subst hw))
    go_ret
    exact ⟨rfl, B⟩
set_option maxHeartbeats 2000000 in
theorem term_w (x : Tm) (w0 : World) (hL : Laid w0) (hx : x.Ok) (h : termB x = true) : WC 84 (.agg #[.string x.v, .int .i64 x.n, .string x.s]) (prT x) w0 := by
  intro B b t w h0 hB hb0 hI hsz
  obtain ⟨W1, hW1⟩ : ∃ W1, W1 = w.alloc (.cells #[.string x.v, .int .i64 x.n, .string x.s] 74) := ⟨_, rfl⟩
  have B1 : Below w.heap.size w W1 := by subst hW1; exact below_alloc1 _ _
  have HWS : Hid (w.heap.size + 1 = W1.heap.size) := by subst hW1; simp [Hid]
  have hv := fun e => vtI_any x.n x.s W1 (term_val h e) hx.2 (hL.below (Rw.next hb0 B1))
  unfold prT at hsz ⊢
  cases he : x.v.toList.isEmpty with
  | true =>
    rw [he] at hsz
    simp only [if_true] at hsz ⊢
    replace hv := hv he
    generalize vtx x.n x.s = R at hv hsz ⊢
    have t1 : True := trivial
    unfold cv
    go_enter Tryz.func84, Tryz.ntmps84
    go_wp2_with (first
      | (go_at_call 99; clear t1; rw [← hW1]; clear hW1; refine hv.mono ?_; rintro e w2 ⟨rfl, hb⟩; have B2 := Rw.next B1 hb; clear hb hv)
      | (go_at_call 34; have hbA := below_alloc1 w2 (.cells #[.string R] 9); refine (w1_any B b t R w2.heap.size _ (0, 0) ((hI.below B2).below hbA) (Nat.le_trans hB (Nat.le_trans B2.size hbA.size)) (at_new rfl) hsz).mono ?_; rintro e w5 ⟨rfl, hw5⟩; have W5 := Wr.next (Rw.next B2 hbA) hw5 hB))
    refine bodyPost_end (v := .tuple #[]) (by simp [results, Tryz.results84, go_sem]) rfl ⟨rfl, W5⟩
  | false =>
    rw [he] at hsz
    simp only [Bool.false_eq_true, if_false] at hsz ⊢
    clear hv
    unfold cv
    go_enter Tryz.func84, Tryz.ntmps84
    go_wp2_with (go_at_call 34; rw [← hW1]; clear hW1; have hbA := below_alloc1 W1 (.cells #[.string x.v] 9); refine (w1_any B b t x.v (w.heap.size + 1) _ (0, 0) ((hI.below B1).below hbA) (Nat.le_trans hB (Nat.le_trans B1.size hbA.size)) (at_new HWS.out) hsz).mono ?_; rintro e w5 ⟨rfl, hw5⟩; have W5 := Wr.next (Rw.next B1 hbA) hw5 hB)
    refine bodyPost_ret (v := .tuple #[]) (by simp [results, Tryz.results84, go_sem]) rfl ⟨rfl, W5⟩

set_option maxHeartbeats 4000000 in
theorem listTm_w (s : Sl Tm) (fst : ByteArray) (hf : fst.size ≤ 10) (w0 : World) (hs : Rd kdTm 0 w0 s) (hC : ∀ i, i < s.Q.length → ∀ x, x = s.Q.getD i tm0 → WC 84 (.agg #[.string x.v, .int .i64 x.n, .string x.s]) (prT x) w0) (hn100 : s.Q.length ≤ 100)
    (B b : Nat) (t : ByteArray) (w : World) (h0 : w0.heap.size ≤ B) (hB : B ≤ w.heap.size) (hb0 : Below w0.heap.size w0 w) (hI : Bd B b t w) (hsz : t.size + (jn tm0 prT fst cS s.Q s.Q.length).size ≤ 1000000000) :
    Calls Tryz.prog 83 #[cv b, .string fst, .slice s.a s.Q.length s.c, .func (.func 84) #[] #[]] w fun e w' => e = .returned (.tuple #[]) ∧ Wr B b (t ++ jn tm0 prT fst cS s.Q s.Q.length) w w' := by
  obtain ⟨sa, sb, so, sc, sQ⟩ := s
  simp only at hC hn100 hsz ⊢
  obtain ⟨n, hn0⟩ : ∃ n, n = sQ.length := ⟨_, rfl⟩
  have HN : Hid (n = sQ.length) := hn0
  rw [← hn0] at hC hn100 hsz ⊢
  have HS : Hid (Rd kdTm 0 w0 ⟨sa, sb, so, sc, sQ⟩) := hs
  have HC : Hid (∀ i, i < n → ∀ x, x = sQ.getD i tm0 → WC 84 (.agg #[.string x.v, .int .i64 x.n, .string x.s]) (prT x) w0) := hC
  have HJ : Hid (∀ k, jn tm0 prT fst cS sQ (k + 1) = jn tm0 prT fst cS sQ k ++ ((if k = 0 then fst else cS) ++ prT (sQ.getD k tm0))) := fun k => by
    simp only [jn]
    skip
  have HM : Hid (∀ k, k ≤ n → (jn tm0 prT fst cS sQ k).size ≤ (jn tm0 prT fst cS sQ n).size) := fun k hk => jn_mono hk
  have HZ : Hid (t.size + (jn tm0 prT fst cS sQ n).size ≤ 1000000000) := hsz
  obtain ⟨hBb, ds, fr, hbb⟩ := hI.lt
  have hbl := blk_lt hbb
  have H0 : Hid (Wr B b (t ++ jn tm0 prT fst cS sQ 0) w w) := by
    rw [Hid, show t ++ jn tm0 prT fst cS sQ 0 = t from app_e t]; exact Wr.refl hI
  have HB0 : Hid (Below w0.heap.size w0 w) := hb0
  clear hn0 hs hC hsz hI hbb hb0 hBb
  unfold cv
  go_enter Tryz.func83, Tryz.ntmps83
  go_wp2
  go_loopw [1, 12] (fun a i wr => ∃ (k : Nat) (A : ByteArray), k ≤ n ∧ a = .string A ∧ A = (if k = 0 then fst else cS) ∧ i = .int .i64 k ∧ Wr B b (t ++ jn tm0 prT fst cS sQ k) w wr) (fun _ i _ => n - (intOf i).toNat)
  case atStart => exact ⟨0, fst, Nat.zero_le _, rfl, rfl, rfl, H0.out⟩
  case round =>
    obtain ⟨k, A, hk, rfl, hA, rfl, hW⟩ := hrel
    have HW : Hid (Wr B b (t ++ jn tm0 prT fst cS sQ k) w wr) := hW
    by_cases hlt : k < n
    · have hkz : (k : Int) < (n : Int) := by omega
      have hszr := hW.size
      have hb0r := hW.below HB0.out h0
      have hA10 : A.size ≤ 10 := by rw [hA]; split <;> first | exact hf | decide
      have HJ1 : Hid (jn tm0 prT fst cS sQ (k + 1) = jn tm0 prT fst cS sQ k ++ (A ++ prT (sQ.getD k tm0))) := by rw [Hid, hA]; exact HJ.out k
      have HM1 := HM.out (k + 1) hlt
      rw [HJ1.out, sz, sz] at HM1
      have hh := HS.out.head (by have := HN.out; simp only; omega)
      obtain ⟨c0, c1, c2⟩ := Pm.cellsTm (HS.out.below hb0r) (i := k) (by have := HN.out; simp only; omega)
      simp only at hh c0 c1 c2
      obtain rfl := hh
      have hCk := HC.out k hlt _ rfl
      clear hA
      generalize prT (sQ.getD k tm0) = P at hCk HJ1 HM1
      generalize sQ.getD k tm0 = y at c0 c1 c2 hCk
      obtain ⟨V, hV⟩ : ∃ V, V = wr.alloc (.cells #[.string y.v, .int .i64 y.n, .string y.s] 74) := ⟨_, rfl⟩
      have hbV : Below wr.heap.size wr V := by subst hV; exact below_alloc1 _ _
      have kb : V.heap[wr.heap.size]? = some (.cells #[.string y.v, .int .i64 y.n, .string y.s] 74 (0, 0)) := by subst hV; exact at_new rfl
      have lV := blk_lt kb
      have HWS : Hid (wr.heap.size + 1 = V.heap.size) := by subst hV; simp [Hid]
      have hbx : wr.heap.size ≠ b := by omega
      have HS1 : Hid ((t ++ jn tm0 prT fst cS sQ k).size + A.size ≤ 1000000000) := by have := HZ.out; rw [Hid, sz]; omega
      have HS2 : Hid (((t ++ jn tm0 prT fst cS sQ k) ++ A).size + P.size ≤ 1000000000) := by have := HZ.out; rw [Hid, sz, sz]; omega
      have HE : Hid (((t ++ jn tm0 prT fst cS sQ k) ++ A) ++ P = t ++ jn tm0 prT fst cS sQ (k + 1)) := by rw [Hid, HJ1.out]; simp only [app_assoc]
      clear HM1
      generalize t ++ jn tm0 prT fst cS sQ k = T at hW HW HS1 HS2 HE
      have t1 : True := trivial
      go_wp2_with (first
        | (go_at_call 34; clear t1; rw [← hV]; have hbA := below_alloc1 V (.cells #[.string A] 9); refine (w1_any B b T A (wr.heap.size + 1) _ (0, 0) ((hW.1.below hbV).below hbA) (Nat.le_trans hB (Nat.le_trans hszr (Nat.le_trans hbV.size hbA.size))) (at_new HWS.out) HS1.out).mono ?_; rintro e w5 ⟨rfl, hw5⟩; have kb5 := kept hw5.2.2 ((hbA.block _ (blk_lt kb)).trans kb) hbx (by decide); have W5 := HW.out.trans (Wr.next (Rw.next hbV hbA) hw5 (Nat.le_trans hB hszr)); clear hw5 hbA hV; have q0 := one4 (u := .string y.v) kb5 0 rfl; have q1 := one4 (u := .int .i64 y.n) kb5 1 rfl; have q2 := one4 (u := .string y.s) kb5 2 rfl)
        | (go_at_call 84; clear q0 q1 q2; refine (hCk B b _ _ h0 (Nat.le_trans hB W5.size) (W5.below HB0.out h0) W5.1 HS2.out).mono ?_; rintro e w6 ⟨rfl, hw6⟩; have W6 := W5.trans hw6))
      rw [HE.out] at W6
      go_roundw
      case rel => exact ⟨k + 1, cS, by omega, rfl, by simp, by go_num, W6⟩
      case measure => simp [intOf]; omega
    · have he : k = n := by omega
      subst he
      clear hA
      go_wp2
      refine bodyPost_end (v := .tuple #[]) (by simp [results, Tryz.results83, go_sem]) rfl ⟨rfl, HW.out⟩

set_option maxHeartbeats 2000000 in
theorem atom_w (x : Atm) (w0 : World) (hL : Laid w0) (hx : x.Ok 0 w0) (h : atomB x.l = true) : WC 61 (.agg #[.string x.s, .slice x.A.a x.A.Q.length x.A.c]) (prA x.l) w0 := by
  intro B b t w h0 hB hb0 hI hsz
  obtain ⟨h1, h2, h3⟩ := atom_parts h
  have h2' : x.A.Q.length ≤ 6 := h2
  have h3' : ∀ i, i < x.A.Q.length → termB (x.A.Q.getD i tm0) = true := h3
  have hLs := listTm_w x.A eS (by decide) w0 hx.2 (fun i hi y hy => by rw [hy]; exact term_w _ w0 hL (hx.2.ok i hi) (h3' i hi)) (by omega) B b
  have hR : prA x.l = (x.s ++ ⟨#[40]⟩) ++ (jn tm0 prT eS cS x.A.Q x.A.Q.length ++ ⟨#[41]⟩) := rfl
  rw [hR] at hsz ⊢
  clear hR h h1 h2 h3 h2' h3'
  generalize jn tm0 prT eS cS x.A.Q x.A.Q.length = J at hLs hsz ⊢
  simp only [sz] at hsz
  have s1 : (⟨#[40]⟩ : ByteArray).size = 1 := rfl
  have s2 : (⟨#[41]⟩ : ByteArray).size = 1 := rfl
  have z1 : t.size + (x.s ++ ⟨#[40]⟩).size ≤ 1000000000 := by rw [sz]; omega
  have z2 : (t ++ (x.s ++ ⟨#[40]⟩)).size + J.size ≤ 1000000000 := by rw [sz, sz]; omega
  have z3 : ((t ++ (x.s ++ ⟨#[40]⟩)) ++ J).size + (⟨#[41]⟩ : ByteArray).size ≤ 1000000000 := by rw [sz, sz, sz]; omega
  clear hsz s1 s2
  obtain ⟨hBb, ds, fr, hbb⟩ := hI.lt
  have hbl := blk_lt hbb
  have hbx : w.heap.size ≠ b := by omega
  obtain ⟨W1, hW1⟩ : ∃ W1, W1 = w.alloc (.cells #[.string x.s, .slice x.A.a x.A.Q.length x.A.c] 46) := ⟨_, rfl⟩
  have B1 : Below w.heap.size w W1 := by subst hW1; exact below_alloc1 _ _
  have k0 : W1.heap[w.heap.size]? = some (.cells #[.string x.s, .slice x.A.a x.A.Q.length x.A.c] 46 (0, 0)) := by subst hW1; exact at_new rfl
  clear hbb hBb
  have HWS : Hid (w.heap.size + 1 = W1.heap.size) := by subst hW1; simp [Hid]
  have t1 : True := trivial
  have HE : Hid (((t ++ (x.s ++ ⟨#[40]⟩)) ++ J) ++ ⟨#[41]⟩ = t ++ ((x.s ++ ⟨#[40]⟩) ++ (J ++ ⟨#[41]⟩))) := by rw [Hid]; simp only [app_assoc]
  unfold cv
  go_enter Tryz.func61, Tryz.ntmps61
  go_wp2_with (first
    | (go_at_call 34; clear t1; rw [← hW1]; clear hW1; have hbA := below_alloc1 W1 (.cells #[.string x.s, .string ⟨#[40]⟩] 9); refine (w2_any B b t x.s ⟨#[40]⟩ (w.heap.size + 1) _ (0, 0) ((hI.below B1).below hbA) (Nat.le_trans hB (Nat.le_trans B1.size hbA.size)) (at_new HWS.out) z1).mono ?_; rintro e w5 ⟨rfl, hw5⟩; replace k0 := kept hw5.2.2 ((hbA.block _ (blk_lt k0)).trans k0) hbx (by decide); have W5 := Wr.next (Rw.next B1 hbA) hw5 hB; clear hw5 hbA; obtain ⟨p0, p1⟩ := two k0)
    | (go_at_call 83; clear p0 p1; refine (hLs _ _ h0 (Nat.le_trans hB W5.size) (W5.below hb0 h0) W5.1 z2).mono ?_; rintro e w6 ⟨rfl, hw6⟩; have W6 := W5.trans hw6; clear hw6)
    | (go_at_call 34; have hbA := below_alloc1 w6 (.cells #[.string ⟨#[41]⟩] 9); refine (w1_any B b _ ⟨#[41]⟩ w6.heap.size _ (0, 0) (W6.1.below hbA) (Nat.le_trans hB (Nat.le_trans W6.size hbA.size)) (at_new rfl) z3).mono ?_; rintro e w7 ⟨rfl, hw7⟩; have W7 := W6.trans (Wr.next hbA hw7 (Nat.le_trans hB W6.size))))
  rw [HE.out] at W7
  refine bodyPost_end (v := .tuple #[]) (by simp [results, Tryz.results61, go_sem]) rfl ⟨rfl, W7⟩

end Go.Proofs.YtmpobkbjjnafmaaGreatDoor.Wp
