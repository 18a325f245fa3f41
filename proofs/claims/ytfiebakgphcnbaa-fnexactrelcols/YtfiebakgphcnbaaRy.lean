/-
  The specification's l10Put.
-/
import Derived.Test.YtfiebakgphcnbaaRq
namespace Go.Proofs.Ytfiebakgphcnbaa.Rl
set_option maxRecDepth 8000
set_option linter.unusedSimpArgs false
set_option linter.unusedVariables false
open Go Go.RowKit
open Num Word Pl Rp
open Vl (ordRow)

/-- A list of rows is handed back. -/
def ResP (w : World) (b : Nat) (Q : List Rm) (X : List RowL) (e : Ending) (w' : World) : Prop := ∃ A bb oo cc F, e = .returned (.slice A (List.length F) cc) ∧ Rd w' A bb oo F ∧ said F = X ∧ Below w.heap.size w w' ∧ ((bb = b ∧ 0 < Q.length) ∨ F.length = 0 ∨ w.heap.size ≤ bb) ∧ ∀ r ∈ F, r ∈ Q ∨ r.l.length = 0 ∨ w.heap.size ≤ r.b
theorem OG.step {w W : World} {B : Nat} {v : Value} {F : List Rm} {x : Rm} (h : OG W B v F) (hw : Below w.heap.size w W) (hB0 : w.heap.size ≤ B) (hB : B ≤ W.heap.size) (hx : x.Ok W) (hf : x.l.length ≠ 0 → some x.b ≠ v.ownBlock) (hl : F.length ≤ 100000) :
    ∃ va vn vc Z, (Builtin.append_ #[29, 29] 23 #[v, .slice (some ⟨W.heap.size, 0, none⟩) 1 1]).run Try.prog (W.alloc (.cells #[x.val] 56)) = .ok (.slice va vn vc) Z ∧ OG Z B (.slice va vn vc) (F ++ [x]) ∧ Below w.heap.size w Z ∧ W.heap.size ≤ Z.heap.size ∧ ∀ k, k < B → Z.heap[k]? = W.heap[k]? := by
  have hb := below_alloc1 W (.cells #[x.val] 56)
  obtain ⟨v', Z, hrun, ogZ, hgr, _⟩ := (h.below hb).app 23 (c := 1) (r := x) (Vl.Rd.below hx hb) hf (Nat.le_trans hB hb.size) (at_new rfl) hl
  obtain ⟨va, vn, vc, hv⟩ := ogZ.slice
  subst hv
  refine ⟨va, vn, vc, Z, hrun, ogZ, (Rw.next hw hb).grown hgr (Nat.le_trans hw.size hb.size) (fun k hk => by have := (h.lt hk).1; omega), Nat.le_trans hb.size hgr.size, fun k hk => ?_⟩
  exact (hgr.block k (Nat.lt_of_lt_of_le (Nat.lt_of_lt_of_le hk hB) hb.size) (fun e => by have := (h.lt e.symm).1; omega)).trans (hb.block k (Nat.lt_of_lt_of_le hk hB))
theorem drop_said {Q : List Rm} {i : Nat} (h : i < Q.length) : (said Q).drop i = (Q.getD i rm0).l :: (said Q).drop (i + 1) := by
  have h2 : i < (said Q).length := by rw [said_len]; exact h
  rw [List.drop_eq_getElem_cons h2, ← said_at h]; simp [List.getD, h2]
/-- What is under way. -/
def PI (m : RowL) (X : List RowL) (F R : List RowL) (dn : Bool) : Prop := if dn = true then F ++ R = X else F ++ insL m R = X

set_option maxHeartbeats 16000000 in
theorem put_any (a a' : Option Addr) (b off cap b' off' cap' : Nat) (Q : List Rm) (m : RowL) (w : World) (h : Rd w a b off Q) (h' : Vl.Rd w a' b' off' m) (h4 : Q.length ≤ 10000) :
    Calls Try.prog 39 #[.slice a Q.length cap, .agg #[.slice a' m.length cap']] w (ResP w b Q (putL (said Q) m)) := by
  obtain ⟨W1, hW1⟩ : ∃ W1, W1 = w.alloc (.cells #[.slice a' m.length cap'] 56) := ⟨_, rfl⟩
  have B1 : Below w.heap.size w W1 := by subst hW1; exact below_alloc1 _ _
  have kU : W1.heap[w.heap.size]? = some (.cells #[.slice a' m.length cap'] 56 (0, 0)) := by subst hW1; exact at_new rfl
  have hL := lhas_any a a' b off cap b' off' cap' Q m W1 (h.below B1) (h'.below B1)
  unfold putL
  by_cases hm : m ∈ said Q
  · rw [if_pos hm]
    rw [decide_eq_true hm] at hL
    have HPos : Hid (0 < Q.length) := (by rw [← said_len]; exact List.length_pos_of_mem hm : 0 < Q.length)
    clear hm
    go_enter Try.func39, Try.ntmps39
    go_wp2_with (go_at_call 72; rw [← hW1]; clear hW1; refine hL.mono ?_; rintro e w1 ⟨rfl, hb⟩)
    go_ret
    exact ⟨a, b, off, cap, Q, rfl, h.below (Rw.next B1 hb), rfl, Rw.next B1 hb, .inl ⟨rfl, HPos.out⟩, fun r hr => .inl hr⟩
  · rw [if_neg hm]
    rw [decide_eq_false hm] at hL
    obtain ⟨X, hX⟩ : ∃ X, X = insL m (said Q) := ⟨_, rfl⟩
    rw [← hX]
    have HX0 : Hid (PI m X [] ((said Q).drop 0) false) := hX.symm
    have HDr : Hid (∀ i, i < Q.length → (said Q).drop i = (Q.getD i rm0).l :: (said Q).drop (i + 1)) := fun i hi => drop_said hi
    have HDn : Hid ((said Q).drop Q.length = []) := (by rw [← said_len]; exact List.drop_length : (said Q).drop Q.length = [])
    clear hm hX
    obtain ⟨hh, hc, hok, hs⟩ := h
    obtain ⟨n, hn⟩ : ∃ n, n = Q.length := ⟨_, rfl⟩
    have HNQ : Hid (n = Q.length) := hn
    rw [← hn] at hh hc hok hs h4 hL HDr HDn ⊢
    clear hn
    go_enter Try.func39, Try.ntmps39
    go_wp2_with (go_at_call 72; rw [← hW1]; clear hW1; refine hL.mono ?_; rintro e w1 ⟨rfl, hb⟩; replace B1 := Rw.next B1 hb; replace kU := (hb.block _ (blk_lt kU)).trans kU; clear hb)
    obtain ⟨B, hB⟩ : ∃ B, B = w.heap.size + 1 := ⟨_, rfl⟩
    have l1 := blk_lt kU
    obtain ⟨W4, hW4⟩ : ∃ W4, W4 = w1.alloc (.cells #[] 56) := ⟨_, rfl⟩
    have og0 : OG W4 B (.slice (some ⟨w1.heap.size, 0, none⟩) 0 0) [] := by subst hW4; exact OG.made w1 (by omega)
    have hb : Below w1.heap.size w1 W4 := by subst hW4; exact below_alloc1 _ _
    replace B1 := Rw.next B1 hb
    replace kU := (hb.block _ (blk_lt kU)).trans kU
    have zW1 : B ≤ W4.heap.size := by have := blk_lt kU; omega
    have hBo : w.heap.size < B := by omega
    clear hb hB l1 hL
    rw [← hW4]
    clear hW4
    go_loopw [5, 6, 15] (fun o d u wr => ∃ (i : Nat) (va : Option Addr) (vn vc : Nat) (F : List Rm) (dn : Bool), i ≤ n ∧ o = .slice va vn vc ∧ d = .bool dn ∧ u = .int .i64 i ∧ Below w.heap.size w wr ∧ wr.heap[w.heap.size]? = some (.cells #[.slice a' m.length cap'] 56 (0, 0)) ∧ OG wr B (.slice va vn vc) F ∧ B ≤ wr.heap.size ∧ F.length ≤ i + dn.toNat ∧ PI m X (said F) ((said Q).drop i) dn ∧ ∀ r ∈ F, r ∈ Q ∨ r.l.length = 0 ∨ w.heap.size ≤ r.b) (fun _ _ u _ => n - (intOf u).toNat)
    case atStart => exact ⟨0, _, _, _, [], false, Nat.zero_le _, rfl, rfl, rfl, B1, kU, og0, zW1, by simp, HX0.out, fun r hr => by simp at hr⟩
    case round =>
      clear B1 kU zW1 og0
      obtain ⟨i, va, vn, vc, F, dn, hi, rfl, rfl, rfl, B1, kU, og, hBs, hFl, hP, hlw⟩ := hrel
      have HLw : Hid (∀ r ∈ F, r ∈ Q ∨ r.l.length = 0 ∨ w.heap.size ≤ r.b) := hlw
      clear hlw
      have HFl : Hid (F.length ≤ i + dn.toNat) := hFl
      have HP : Hid (PI m X (said F) ((said Q).drop i) dn) := hP
      have hF1 : F.length ≤ 100000 := by have := Bool.toNat_le dn; omega
      clear hFl hP
      have u0 := one kU
      by_cases hlt : i < n
      · obtain rfl := hh (by omega)
        have hnz : (i : Int) < (n : Int) := by omega
        have hn0 : (0 : Int) ≤ (i : Int) := by omega
        have A1 := (B1.cell (World.block_lt_of_cell? _ _ (hc i hlt))).trans (hc i hlt)
        have c1 := hc i hlt
        have ok : (Q.getD i rm0).Ok w := hok i hlt
        have HD := HDr.out i hlt
        have hmem : Q.getD i rm0 ∈ Q := getD_mem (by have := HNQ.out; omega)
        clear hc hok hh HDr
        generalize Q.getD i rm0 = x at A1 ok HD c1 hmem
        obtain ⟨xa, xb, xo, xc, xl⟩ := x
        simp only [Rm.val] at A1 HD c1
        have HMem : Hid ((⟨xa, xb, xo, xc, xl⟩ : Rm) ∈ Q) := hmem
        clear hmem
        have hP := HP.out
        rw [HD] at hP
        have HDH : Hid ((said Q).drop i = xl :: (said Q).drop (i + 1)) := HD
        clear HD HP
        cases dn
        · have hS := fun W h1 h2 => Vl.sorder_any a' xa b' off' cap' xb xo xc m xl W h1 h2
          have hP2 : said F ++ insL m (xl :: (said Q).drop (i + 1)) = X := hP
          rw [insL] at hP2
          clear hP
          by_cases hr : ordRow m xl = -1
          · rw [if_pos hr] at hP2
            have HP2 : Hid (said F ++ m :: xl :: (said Q).drop (i + 1) = X) := hP2
            have HR : Hid (ordRow m xl = -1) := hr
            clear hP2 hr
            go_wp2
            go_region_held3 (fun w' => w'.cell? ⟨w.heap.size, 0, none⟩ = some (.slice a' m.length cap') ∧ w'.cell? ⟨b, off + i, none⟩ = some (.slice xa xl.length xc)) (go_keep) (first | (go_at_call 73; refine (hS _ (h'.below (Rw.next B1 ((Below.refl _ _).drew))) (ok.below (Rw.next B1 ((Below.refl _ _).drew)))).mono ?_; rw [HR.out]; rintro e w1 ⟨rfl, hb⟩; replace hb := Rw.next ((Below.refl _ _).drew) hb; clear u0; replace B1 := Rw.next B1 hb; replace kU := (hb.block _ (blk_lt kU)).trans kU; replace og := og.below hb; replace hBs := Nat.le_trans hBs hb.size; replace A1 := (hb.cell (World.block_lt_of_cell? _ _ A1)).trans A1; clear hb; have u0 := one kU))
            have hrow := lrow_any a' b' off' cap' m w1 (h'.below B1)
            go_wp2_with (first
              | (go_at_call 29; refine hrow.mono ?_; rintro e w2 ⟨r, rfl, hnr, hrl, hb⟩; have ogl : ∀ k, (Value.slice va vn vc).ownBlock = some k → k < w1.heap.size := (fun k hk => (og.lt hk).2); replace B1 := Rw.next B1 hb; replace kU := (hb.block _ (blk_lt kU)).trans kU; replace og := og.below hb; have hBs1 := hBs; replace hBs := Nat.le_trans hBs hb.size; replace A1 := (hb.cell (World.block_lt_of_cell? _ _ A1)).trans A1; clear hb u0; obtain ⟨ua, un, uc, Z, hrun, ogZ, BZ, sZ, kZ⟩ := OG.step og B1 (by omega) hBs hnr.ok (fun h0 e => by have := (hnr.own h0).2.1; have := ogl _ e.symm; omega) hF1; have HRl : Hid (r.l = m) := hrl; have HNw : Hid (r ∈ Q ∨ r.l.length = 0 ∨ w.heap.size ≤ r.b) := (by by_cases h0 : r.l.length = 0; exact .inr (.inl h0); exact .inr (.inr (by have := (hnr.own h0).2.1; omega))); clear hrl ogl; simp only [Rm.val] at hrun)
              | (at_builtin; refine Hn.wpList_run rfl (Hn.exec_app (.tmp 29) (.tmp 32) rfl rfl rfl hrun) ?_; have hBZ : B ≤ Z.heap.size := Nat.le_trans hBs sZ; have A2 := (BZ.cell (World.block_lt_of_cell? _ _ c1)).trans c1; obtain ⟨ta, tn, tc, Z2, hrun2, ogZ2, BZ2, sZ2, kZ2⟩ := OG.step (x := (⟨xa, xb, xo, xc, xl⟩ : Rm)) ogZ BZ (by omega) hBZ (Vl.Rd.below ok BZ) (fun h0 e => by have q1 : xb < w.heap.size := vrd_lt ok h0; have q2 : B ≤ xb := (ogZ.lt e.symm).1; omega) (by have := HFl.out; simp only [Bool.toNat, cond, List.length_append, List.length_cons, List.length_nil] at this ⊢; omega); simp only [Rm.val] at hrun2)
              | (at_builtin; refine Hn.wpList_run rfl (Hn.exec_app (.tmp 34) (.tmp 39) rfl rfl rfl hrun2) ?_))
            go_roundw
            case rel => exact ⟨i + 1, ta, tn, tc, F ++ [r] ++ [(⟨xa, xb, xo, xc, xl⟩ : Rm)], true, by omega, rfl, rfl, by go_num, BZ2, (kZ2 _ hBo).trans ((kZ _ hBo).trans kU), ogZ2, Nat.le_trans hBZ sZ2, by have := HFl.out; simp only [Bool.toNat, cond, List.length_append, List.length_cons, List.length_nil] at this ⊢; omega, by show said _ ++ _ = X; rw [said_app, said_app, HRl.out, ← HP2.out]; simp, fun q hq => by rcases List.mem_append.1 hq with hq | hq; (rcases List.mem_append.1 hq with hq | hq; exact HLw.out q hq; (obtain rfl := List.mem_singleton.1 hq; exact HNw.out)); (obtain rfl := List.mem_singleton.1 hq; exact .inl HMem.out)⟩
            case measure => simp [intOf]; omega
          · rw [if_neg hr] at hP2
            have HP2 : Hid (said F ++ xl :: insL m ((said Q).drop (i + 1)) = X) := hP2
            clear hP2
            have hr1 : (ordRow m xl == -1) = false := by rw [beq_eq_false_iff_ne]; exact hr
            clear hr
            go_wp2
            go_region_held3 (fun w' => w'.cell? ⟨w.heap.size, 0, none⟩ = some (.slice a' m.length cap') ∧ w'.cell? ⟨b, off + i, none⟩ = some (.slice xa xl.length xc)) (go_keep) (first | (go_at_call 73; refine (hS _ (h'.below (Rw.next B1 ((Below.refl _ _).drew))) (ok.below (Rw.next B1 ((Below.refl _ _).drew)))).mono ?_; rintro e w1 ⟨rfl, hb⟩; replace hb := Rw.next ((Below.refl _ _).drew) hb; clear u0; replace B1 := Rw.next B1 hb; replace kU := (hb.block _ (blk_lt kU)).trans kU; replace og := og.below hb; replace hBs := Nat.le_trans hBs hb.size; replace A1 := (hb.cell (World.block_lt_of_cell? _ _ A1)).trans A1; clear hb; have u0 := one kU))
            obtain ⟨ta, tn, tc, Z2, hrun2, ogZ2, BZ2, sZ2, kZ2⟩ := OG.step (x := (⟨xa, xb, xo, xc, xl⟩ : Rm)) og B1 (by omega) hBs (Vl.Rd.below ok B1) (fun h0 e => by have q1 : xb < w.heap.size := vrd_lt ok h0; have q2 : B ≤ xb := (og.lt e.symm).1; omega) hF1
            simp only [Rm.val] at hrun2
            go_wp2_with (at_builtin; refine Hn.wpList_run rfl (Hn.exec_app (.tmp 34) (.tmp 39) rfl rfl rfl hrun2) ?_)
            go_roundw
            case rel => exact ⟨i + 1, ta, tn, tc, F ++ [(⟨xa, xb, xo, xc, xl⟩ : Rm)], false, by omega, rfl, rfl, by go_num, BZ2, (kZ2 _ hBo).trans kU, ogZ2, Nat.le_trans hBs sZ2, by have := HFl.out; simp only [Bool.toNat, cond, List.length_append, List.length_cons, List.length_nil] at this ⊢; omega, by show said _ ++ _ = X; rw [said_app, ← HP2.out]; simp, fun q hq => by rcases List.mem_append.1 hq with hq | hq; exact HLw.out q hq; (obtain rfl := List.mem_singleton.1 hq; exact .inl HMem.out)⟩
            case measure => simp [intOf]; omega
        · have HP2 : Hid (said F ++ xl :: (said Q).drop (i + 1) = X) := hP
          clear hP
          have A3 : wr.drew.cell? ⟨b, off + i, none⟩ = some (.slice xa xl.length xc) := A1
          obtain ⟨ta, tn, tc, Z2, hrun2, ogZ2, BZ2, sZ2, kZ2⟩ := OG.step (W := wr.drew) (x := (⟨xa, xb, xo, xc, xl⟩ : Rm)) (og.below ((Below.refl _ _).drew)) B1.drew (by omega) hBs (Vl.Rd.below ok B1.drew) (fun h0 e => by have q1 : xb < w.heap.size := vrd_lt ok h0; have q2 : B ≤ xb := (og.lt e.symm).1; omega) hF1
          simp only [Rm.val] at hrun2
          go_wp2
          refine wp_region_held_drew (S := fun w' => True) (by kernel_rfl) trivial (fun hHeld => ?_)
          refine Hn.take (i := 0) (d := some 18) (v := .bool true) rfl (by kernel_rfl) (by kernel_rfl) (by kernel_rfl) (by kernel_rfl) (fun _ _ _ h => h) (Or.inl ⟨by rfl, by intro w hSw; go_simp⟩) hHeld ?_
          simp only [Act.put, List.setIfInBounds_toArray, List.set_cons_zero, List.set_cons_succ]
          refine Hn.take (i := 1) (d := some 19) (v := .bool false) rfl (by kernel_rfl) (by kernel_rfl) (by kernel_rfl) (by kernel_rfl) (fun _ _ _ h => h) (Or.inl ⟨by rfl, by intro w hSw; go_simp⟩) hHeld ?_
          simp only [Act.put, List.setIfInBounds_toArray, List.set_cons_zero, List.set_cons_succ]
          refine Hn.take (i := 2) (d := some 20) (v := .bool false) rfl (by kernel_rfl) (by kernel_rfl) (by kernel_rfl) (by kernel_rfl) (fun _ _ _ h => h) (Or.inl ⟨by rfl, by intro w hSw; go_simp⟩) hHeld ?_
          simp only [Act.put, List.setIfInBounds_toArray, List.set_cons_zero, List.set_cons_succ]
          refine Hn.take (i := 3) (d := some 21) (v := undef) rfl (by kernel_rfl) (by kernel_rfl) (by kernel_rfl) (by kernel_rfl) (fun _ _ _ h => h) (Or.inr ⟨by rfl, rfl⟩) hHeld ?_
          simp only [Act.put, List.setIfInBounds_toArray, List.set_cons_zero, List.set_cons_succ]
          refine Hn.take (i := 4) (d := some 22) (v := undef) rfl (by kernel_rfl) (by kernel_rfl) (by kernel_rfl) (by kernel_rfl) (fun _ _ _ h => h) (Or.inr ⟨by rfl, rfl⟩) hHeld ?_
          simp only [Act.put, List.setIfInBounds_toArray, List.set_cons_zero, List.set_cons_succ]
          refine Hn.take (i := 5) (d := some 23) (v := undef) rfl (by kernel_rfl) (by kernel_rfl) (by kernel_rfl) (by kernel_rfl) (fun _ _ _ h => h) (Or.inr ⟨by rfl, rfl⟩) hHeld ?_
          simp only [Act.put, List.setIfInBounds_toArray, List.set_cons_zero, List.set_cons_succ]
          refine Hn.take (i := 6) (d := some 24) (v := undef) rfl (by kernel_rfl) (by kernel_rfl) (by kernel_rfl) (by kernel_rfl) (fun _ _ _ h => h) (Or.inr ⟨by rfl, rfl⟩) hHeld ?_
          simp only [Act.put, List.setIfInBounds_toArray, List.set_cons_zero, List.set_cons_succ]
          refine Hn.take (i := 7) (d := some 25) (v := undef) rfl (by kernel_rfl) (by kernel_rfl) (by kernel_rfl) (by kernel_rfl) (fun _ _ _ h => h) (Or.inr ⟨by rfl, rfl⟩) hHeld ?_
          simp only [Act.put, List.setIfInBounds_toArray, List.set_cons_zero, List.set_cons_succ]
          refine Hn.take (i := 8) (d := some 26) (v := undef) rfl (by kernel_rfl) (by kernel_rfl) (by kernel_rfl) (by kernel_rfl) (fun _ _ _ h => h) (Or.inr ⟨by rfl, rfl⟩) hHeld ?_
          simp only [Act.put, List.setIfInBounds_toArray, List.set_cons_zero, List.set_cons_succ]
          refine Hn.take (i := 9) (d := some 27) (v := undef) rfl (by kernel_rfl) (by kernel_rfl) (by kernel_rfl) (by kernel_rfl) (fun _ _ _ h => h) (Or.inr ⟨by rfl, rfl⟩) hHeld ?_
          simp only [Act.put, List.setIfInBounds_toArray, List.set_cons_zero, List.set_cons_succ]
          refine Hn.take (i := 10) (d := some 28) (v := .bool false) rfl (by kernel_rfl) (by kernel_rfl) (by kernel_rfl) (by kernel_rfl) (fun _ _ _ h => h) (Or.inl ⟨by rfl, by intro w hSw; go_simp⟩) hHeld ?_
          simp only [Act.put, List.setIfInBounds_toArray, List.set_cons_zero, List.set_cons_succ]
          refine wpAnyH_done (by kernel_rfl) ?_ _
          have HK5 : Hid (Z2.heap[w.heap.size]? = some (.cells #[.slice a' m.length cap'] 56 (0, 0))) := (kZ2 _ hBo).trans kU
          have HS5 : Hid (B ≤ Z2.heap.size) := Nat.le_trans hBs sZ2
          clear kZ2 sZ2
          generalize wr.drew = W5 at hrun2 A3 ⊢
          go_wp2_with (at_builtin; refine Hn.wpList_run rfl (Hn.exec_app (.tmp 34) (.tmp 39) rfl rfl rfl hrun2) ?_)
          go_roundw
          case rel => exact ⟨i + 1, ta, tn, tc, F ++ [(⟨xa, xb, xo, xc, xl⟩ : Rm)], true, by omega, rfl, rfl, by go_num, BZ2, HK5.out, ogZ2, HS5.out, by have := HFl.out; simp only [Bool.toNat, cond, List.length_append, List.length_cons, List.length_nil] at this ⊢; omega, by show said _ ++ _ = X; rw [said_app, ← HP2.out]; simp, fun q hq => by rcases List.mem_append.1 hq with hq | hq; exact HLw.out q hq; (obtain rfl := List.mem_singleton.1 hq; exact .inl HMem.out)⟩
          case measure => simp [intOf]; omega
      · have he : i = n := by omega
        subst he
        have hP := HP.out
        rw [HDn.out] at hP
        cases dn
        · have HP2 : Hid (said F ++ [m] = X) := hP
          have hrow := lrow_any a' b' off' cap' m wr (h'.below B1)
          clear hP HP
          go_wp2_with (first
            | (go_at_call 29; refine hrow.mono ?_; rintro e w2 ⟨r, rfl, hnr, hrl, hb⟩; have ogl : ∀ k, (Value.slice va vn vc).ownBlock = some k → k < wr.heap.size := (fun k hk => (og.lt hk).2); replace B1 := Rw.next B1 hb; replace og := og.below hb; have hBs1 := hBs; replace hBs := Nat.le_trans hBs hb.size; clear hb; obtain ⟨ua, un, uc, Z, hrun, ogZ, BZ, sZ, kZ⟩ := OG.step og B1 (by omega) hBs hnr.ok (fun h0 e => by have := (hnr.own h0).2.1; have := ogl _ e.symm; omega) hF1; have HRl : Hid (r.l = m) := hrl; have HNw : Hid (r ∈ Q ∨ r.l.length = 0 ∨ w.heap.size ≤ r.b) := (by by_cases h0 : r.l.length = 0; exact .inr (.inl h0); exact .inr (.inr (by have := (hnr.own h0).2.1; omega))); clear hrl ogl; simp only [Rm.val] at hrun)
            | (at_builtin; refine Hn.wpList_run rfl (Hn.exec_app (.tmp 44) (.tmp 47) rfl rfl rfl hrun) ?_))
          go_ret
          obtain ⟨fa, fg, fc, e4, r4, hbk⟩ := ogZ.form (by have := HFl.out; simp only [Bool.toNat, cond, List.length_append, List.length_cons, List.length_nil] at this ⊢; omega)
          exact ⟨fa, fg, 0, fc, F ++ [r], by rw [← e4]; rfl, r4, by rw [said_app, HRl.out]; exact HP2.out, BZ, .inr (hbk.imp id fun ⟨q, _⟩ => by omega), fun q hq => by rcases List.mem_append.1 hq with hq | hq; exact HLw.out q hq; (obtain rfl := List.mem_singleton.1 hq; exact HNw.out)⟩
        · have HP2 : Hid (said F = X) := (by have e : said F ++ [] = X := hP; rwa [List.append_nil] at e : said F = X)
          clear hP HP
          go_wp2
          go_ret
          obtain ⟨fa, fg, fc, e4, r4, hbk⟩ := og.form (by have := HFl.out; simp only [Bool.toNat, cond] at this; omega)
          exact ⟨fa, fg, 0, fc, F, by rw [← e4]; rfl, r4, HP2.out, B1, .inr (hbk.imp id fun ⟨q, _⟩ => by omega), HLw.out⟩

end Go.Proofs.Ytfiebakgphcnbaa.Rl
