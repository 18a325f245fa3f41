/-
  Contracts laid together (Po, Pq, Pe, Mi, Mf, Lm, Rg, Yb, Ea, Eo, Eb, Ec, Ee).
-/
import Derived.Test.YtcbhpmgjmpbpmaaQa
import Derived.Deep.MidRow
import Derived.Deep.RegionHeld3
import Derived.Deep.RegionWith
import Derived.ChangeKeysEq
import Derived.Laws.StructEq
import Derived.Deep.Slices
import Derived.Laws.MakeOwn
namespace Go.Proofs.Ytcbhpmgjmpbpmaa.Po
set_option maxRecDepth 8000
open Go Go.RowKit
open Num Pl Hr Hh Hf Hg Pa Pm

/-- Every number is one of 64 bits. -/
def Wide (l : List Int) : Prop := ∀ k, I64 (l.getD k 0)
/-- The first k pairs are right. -/
def uptoP (V M : List Int) : Nat → Bool
  | 0 => true
  | k + 1 => uptoP V M k && pairB k (V.getD k 0) (M.getD k 0)
theorem uptoP_no {V M : List Int} {k : Nat} (h : pairB k (V.getD k 0) (M.getD k 0) = false) : ∀ j, k < j → uptoP V M j = false
  | 0, hj => by omega
  | j + 1, hj => by
    by_cases e : j = k
    · subst e; simp only [uptoP, h, Bool.and_false]
    · simp only [uptoP, uptoP_no h j (by omega), Bool.false_and]
theorem uptoP_step {V M : List Int} {k : Nat} (h : uptoP V M k = true) (hk : pairB k (V.getD k 0) (M.getD k 0) = true) : uptoP V M (k + 1) = true := by
  simp only [uptoP, h, hk, Bool.and_self]
theorem uptoP_at {V M : List Int} : ∀ {j : Nat}, uptoP V M j = true → ∀ k, k < j → pairB k (V.getD k 0) (M.getD k 0) = true
  | 0, _, k, hk => by omega
  | j + 1, h, k, hk => by
    simp only [uptoP, Bool.and_eq_true] at h
    by_cases e : k = j
    · subst e; exact h.2
    · exact uptoP_at h.1 k (by omega)
/-- The match is right. -/
def matchB (V M : List Int) : Bool := decide (V.length = 8) && decide (M.length = 8) && uptoP V M 8
/-- The numbers of a list, by their places. -/
def nth (l : List Int) : Nat → Int := fun k => l.getD k 0
/-- What the pairs of a match are: nothing where it isn't right. -/
def pv (V M : List Int) : Nat → Int := if matchB V M = true then nth V else nul
def pm (V M : List Int) : Nat → Int := if matchB V M = true then nth M else nul
theorem pv_no {V M : List Int} (h : matchB V M = false) : pv V M = nul := by unfold pv; rw [h]; rfl
theorem pm_no {V M : List Int} (h : matchB V M = false) : pm V M = nul := by unfold pm; rw [h]; rfl
theorem pv_yes {V M : List Int} (h : matchB V M = true) : pv V M = nth V := by unfold pv; rw [h]; rfl
theorem pm_yes {V M : List Int} (h : matchB V M = true) : pm V M = nth M := by unfold pm; rw [h]; rfl

theorem tuple_row {fn : Func} {p : Tmp} {q : Tmp} (h : fn.results = #[.cell p 142, .tmp q]) (tmps : Array Value) (w : World) (g : Nat) {v m : Nat → Int} {ok : Value}
    (hp : tmps.getD p undef = .pointer (some ⟨g, 0, none⟩)) (hq : tmps.getD q undef = ok) (hg : Has w g v m) :
    (results fn tmps).run Try.prog w = .ok (.tuple #[.agg (enc v m), ok]) w := by
  have hp' : tmps[p]?.getD undef = .pointer (some ⟨g, 0, none⟩) := by simpa using hp
  have hq' : tmps[q]?.getD undef = ok := by simpa using hq
  simp [results, h, hp', hq', asAddr, load_has hg]

theorem lens_no {V M : List Int} (h : ¬ (V.length = 8 ∧ M.length = 8)) : matchB V M = false := by
  unfold matchB
  by_cases h1 : V.length = 8
  · have h2 : ¬ M.length = 8 := fun e => h ⟨h1, e⟩
    rw [decide_eq_false h2]; simp
  · rw [decide_eq_false h1]; simp

set_option maxHeartbeats 2000000 in
theorem pairs_short (aV aM : Option Addr) (cV cM : Nat) (V M : List Int) (w : World) (h : ¬ (V.length = 8 ∧ M.length = 8)) :
    Calls Try.prog 110 #[.agg #[.slice aV V.length cV, .slice aM M.length cM]] w fun e w' => e = .returned (.tuple #[.agg (enc nul nul), .bool false]) ∧ Below w.heap.size w w' := by
  have hR : Has ((w.alloc (.cells #[.slice aV V.length cV, .slice aM M.length cM] 25)).alloc (.cells #[.int .i64 0, .int .i64 0, .int .i64 0, .int .i64 0, .int .i64 0, .int .i64 0, .int .i64 0, .int .i64 0, .int .i64 0, .int .i64 0, .int .i64 0, .int .i64 0, .int .i64 0, .int .i64 0, .int .i64 0, .int .i64 0] 142)) (w.heap.size + 1) nul nul := has_zero (by simp)
  have B := Rw.next (below_alloc1 w (.cells #[.slice aV V.length cV, .slice aM M.length cM] 25)) (below_alloc1 _ (.cells #[.int .i64 0, .int .i64 0, .int .i64 0, .int .i64 0, .int .i64 0, .int .i64 0, .int .i64 0, .int .i64 0, .int .i64 0, .int .i64 0, .int .i64 0, .int .i64 0, .int .i64 0, .int .i64 0, .int .i64 0, .int .i64 0] 142))
  by_cases h1 : V.length = 8
  · have h2 : ((M.length : Int) != 8) = true := by simp; omega
    have h3 : ((V.length : Int) != 8) = false := by simp; omega
    clear h h1
    go_enter Try.func110, Try.ntmps110
    go_wp2_with (refine store66 (v := nul) (m := nul) rfl _ _ rfl rfl (by rw [enc_nul]; rfl) hR (fun w' hN hS => ?_))
    exact bodyPost_ret (tuple_row rfl _ _ _ rfl rfl hN) rfl ⟨rfl, hS.below B (Nat.le_succ _)⟩
  · have h2 : ((V.length : Int) != 8) = true := by simp; omega
    clear h
    go_enter Try.func110, Try.ntmps110
    go_wp2_with (refine store66 (v := nul) (m := nul) rfl _ _ rfl rfl (by rw [enc_nul]; rfl) hR (fun w' hN hS => ?_))
    exact bodyPost_ret (tuple_row rfl _ _ _ rfl rfl hN) rfl ⟨rfl, hS.below B (Nat.le_succ _)⟩

set_option maxHeartbeats 4000000 in
theorem pairs_full (bV oV cV bM oM cM : Nat) (V M : List Int) (w : World) (hV : Rd w (some ⟨bV, oV, none⟩) bV oV V) (hM : Rd w (some ⟨bM, oM, none⟩) bM oM M) (hW : Wide V) (h1 : V.length = 8) (h2 : M.length = 8) :
    Calls Try.prog 110 #[.agg #[.slice (some ⟨bV, oV, none⟩) 8 cV, .slice (some ⟨bM, oM, none⟩) 8 cM]] w fun e w' => e = .returned (.tuple #[.agg (enc (pv V M) (pm V M)), .bool (matchB V M)]) ∧ Below w.heap.size w w' := by
  have HB : Hid (matchB V M = uptoP V M 8) := (by unfold matchB; rw [decide_eq_true h1, decide_eq_true h2]; rfl : matchB V M = uptoP V M 8)
  have HV : Hid (∀ k, k < 8 → w.cell? ⟨bV, oV + k, none⟩ = some (.int .i64 (nth V k))) := (fun k hk => hV.cell k (by omega) : ∀ k, k < 8 → w.cell? ⟨bV, oV + k, none⟩ = some (.int .i64 (nth V k)))
  have HM : Hid (∀ k, k < 8 → w.cell? ⟨bM, oM + k, none⟩ = some (.int .i64 (nth M k))) := (fun k hk => hM.cell k (by omega) : ∀ k, k < 8 → w.cell? ⟨bM, oM + k, none⟩ = some (.int .i64 (nth M k)))
  have HW : Hid (Wide V) := hW
  obtain ⟨W0, hW0⟩ : ∃ W0, W0 = ((w.alloc (.cells #[.slice (some ⟨bV, oV, none⟩) 8 cV, .slice (some ⟨bM, oM, none⟩) 8 cM] 25)).alloc (.cells #[.int .i64 0, .int .i64 0, .int .i64 0, .int .i64 0, .int .i64 0, .int .i64 0, .int .i64 0, .int .i64 0, .int .i64 0, .int .i64 0, .int .i64 0, .int .i64 0, .int .i64 0, .int .i64 0, .int .i64 0, .int .i64 0] 142)).alloc (.cells #[.int .i64 0, .int .i64 0, .int .i64 0, .int .i64 0, .int .i64 0, .int .i64 0, .int .i64 0, .int .i64 0, .int .i64 0, .int .i64 0, .int .i64 0, .int .i64 0, .int .i64 0, .int .i64 0, .int .i64 0, .int .i64 0] 142) := ⟨_, rfl⟩
  have B0 : Below w.heap.size w W0 := by subst hW0; exact Rw.next (Rw.next (below_alloc1 _ _) (below_alloc1 _ _)) (below_alloc1 _ _)
  have k0 : W0.heap[w.heap.size]? = some (.cells #[.slice (some ⟨bV, oV, none⟩) 8 cV, .slice (some ⟨bM, oM, none⟩) 8 cM] 25 (0, 0)) := by subst hW0; rw [at_old (by simp; omega), at_old (by simp), at_new rfl]
  have hR : Has W0 (w.heap.size + 1) nul nul := by subst hW0; exact has_old (has_zero (by simp))
  have hL : Has W0 (w.heap.size + 1 + 1) nul nul := by subst hW0; exact has_zero (by simp)
  clear hV hM hW h1 h2
  go_enter Try.func110, Try.ntmps110
  go_wp2
  rw [← hW0]
  clear hW0
  go_loopw [17] (fun i wr => ∃ k : Nat, k ≤ 8 ∧ i = .int .i64 k ∧ Below w.heap.size w wr ∧ wr.heap[w.heap.size]? = some (.cells #[.slice (some ⟨bV, oV, none⟩) 8 cV, .slice (some ⟨bM, oM, none⟩) 8 cM] 25 (0, 0)) ∧ Has wr (w.heap.size + 1) nul nul ∧ Has wr (w.heap.size + 1 + 1) (cut (nth V) nul k) (cut (nth M) nul k) ∧ uptoP V M k = true) (fun i _ => 8 - (intOf i).toNat)
  case atStart => exact ⟨0, Nat.zero_le _, rfl, B0, k0, hR, hL.cast (by funext i; simp [cut]) (by funext i; simp [cut]), rfl⟩
  case round =>
    obtain ⟨k, hk, rfl, hbel, q0, hr, hl, hup⟩ := hrel
    have HU : Hid (uptoP V M k = true) := hup
    clear hup B0 k0 hR hL
    have z0 := (Array.getElem?_eq_some_iff.1 q0).1
    have z1 := hr.lt
    have z2 := hl.lt
    by_cases hlt : k < 8
    · have hkz : (k : Int) < 8 := by omega
      have g0 : wr.cell? ⟨bV, oV + k, none⟩ = some (.int .i64 (nth V k)) := (hbel.cell (World.block_lt_of_cell? _ _ (HV.out k hlt))).trans (HV.out k hlt)
      have g1 : wr.cell? ⟨bM, oM + k, none⟩ = some (.int .i64 (nth M k)) := (hbel.cell (World.block_lt_of_cell? _ _ (HM.out k hlt))).trans (HM.out k hlt)
      obtain ⟨c0, c1⟩ := two q0
      have d0 := hl.v hlt
      have d1 := hl.m hlt
      rw [cut_at] at d0 d1
      have f0 := hl.free (k * 2)
      have f1 := hl.free (k * 2 + 1)
      have HQ : Hid (wr.heap[w.heap.size]? = some (.cells #[.slice (some ⟨bV, oV, none⟩) 8 cV, .slice (some ⟨bM, oM, none⟩) 8 cM] 25 (0, 0))) := q0
      have HR : Hid (Has wr (w.heap.size + 1) nul nul) := hr
      have HL : Hid (Has wr (w.heap.size + 1 + 1) (cut (nth V) nul k) (cut (nth M) nul k)) := hl
      clear q0 hr hl
      have hf := fun w' => right_any k (nth V k) (nth M k) w' (HW.out k)
      have HN : Hid (pairB k (nth V k) (nth M k) = false → uptoP V M 8 = false) := (fun h => uptoP_no h 8 hlt : pairB k (nth V k) (nth M k) = false → uptoP V M 8 = false)
      have HY : Hid (pairB k (nth V k) (nth M k) = true → uptoP V M (k + 1) = true) := (fun h => uptoP_step HU.out h : pairB k (nth V k) (nth M k) = true → uptoP V M (k + 1) = true)
      have HF : Hid (∀ w', Calls Try.prog 180 #[.agg #[.int .i64 (nth V k), .int .i64 (nth M k)], .int .i64 k] w' fun e w'' => e = .returned (.bool (pairB k (nth V k) (nth M k))) ∧ Below w'.heap.size w' w'') := hf
      clear hf
      go_wp2
      go_region
      obtain ⟨wx, hwx⟩ : ∃ wx, wx = ((wr.setCell ⟨w.heap.size + 1 + 1, k * 2, none⟩ (.int .i64 (nth V k))).setCell ⟨w.heap.size + 1 + 1, k * 2 + 1, none⟩ (.int .i64 (nth M k))).drew := ⟨_, rfl⟩
      rw [← hwx]
      have bx : Below w.heap.size w wx := by subst hwx; exact (bset (bset hbel (by omega)) (by omega)).drew
      have qx : wx.heap[w.heap.size]? = some (.cells #[.slice (some ⟨bV, oV, none⟩) 8 cV, .slice (some ⟨bM, oM, none⟩) 8 cM] 25 (0, 0)) := by subst hwx; rw [heap_drew]; exact blk_set (blk_set HQ.out (by simp; omega)) (by simp; omega)
      have rx : Has wx (w.heap.size + 1) nul nul := by subst hwx; exact ((HR.out.set_other (by simp) _).set_other (by simp) _).drew
      have lx : Has wx (w.heap.size + 1 + 1) (cut (nth V) nul (k + 1)) (cut (nth M) nul (k + 1)) := by subst hwx; exact (((HL.out.set_v hlt _).set_m hlt _).cast (upd_cut _ _ k) (upd_cut _ _ k)).drew
      have e0 := lx.v hlt
      have e1 := lx.m hlt
      have a0 : cut (nth V) nul (k + 1) k = nth V k := by simp [cut]
      have a1 : cut (nth M) nul (k + 1) k = nth M k := by simp [cut]
      rw [a0] at e0
      rw [a1] at e1
      clear a0 a1 hwx g0 g1 c0 c1 d0 d1 f0 f1 HQ HR HL hbel z0 z1 z2
      have HX : Hid (wx.heap[w.heap.size]? = some (.cells #[.slice (some ⟨bV, oV, none⟩) 8 cV, .slice (some ⟨bM, oM, none⟩) 8 cM] 25 (0, 0))) := qx
      have HRX : Hid (Has wx (w.heap.size + 1) nul nul) := rx
      have HLX : Hid (Has wx (w.heap.size + 1 + 1) (cut (nth V) nul (k + 1)) (cut (nth M) nul (k + 1))) := lx
      have lt0 := (Array.getElem?_eq_some_iff.1 qx).1
      clear qx rx lx
      have hf := HF.out wx
      clear HF
      cases hx : pairB k (nth V k) (nth M k) with
      | true =>
        rw [hx] at hf
        go_wp2_with (go_at_call 180; refine hf.mono ?_; rintro e wa ⟨rfl, hba⟩)
        go_roundw
        case rel => exact ⟨k + 1, by omega, by go_num, Rw.next bx hba, (hba.block _ lt0).trans HX.out, HRX.out.below hba, HLX.out.below hba, HY.out hx⟩
        case measure => simp [intOf]; omega
      | false =>
        rw [hx] at hf
        have ho : matchB V M = false := HB.out.trans (HN.out hx)
        go_wp2_with (first | (go_at_call 180; refine hf.mono ?_; rintro e wa ⟨rfl, hba⟩) | (refine store66 (v := nul) (m := nul) rfl _ _ rfl rfl (by rw [enc_nul]; rfl) (HRX.out.below hba) (fun w' hN hS => ?_)))
        rw [ho, pv_no ho, pm_no ho]
        exact bodyPost_ret (tuple_row rfl _ _ _ rfl rfl hN) rfl ⟨rfl, hS.below (Rw.next bx hba) (Nat.le_succ _)⟩
    · have he : k = 8 := by omega
      subst he
      have ho : matchB V M = true := HB.out.trans HU.out
      have e8 : enc (cut (nth V) nul 8) (cut (nth M) nul 8) = enc (nth V) (nth M) := enc_congr (fun k hk => by simp [cut, hk]) (fun k hk => by simp [cut, hk])
      have hl' : Has wr (w.heap.size + 1 + 1) (nth V) (nth M) := by unfold Has at *; rw [← e8]; exact hl
      clear hl e8
      go_wp2_with (first | (refine load66 rfl _ rfl rfl hl' ?_) | (refine store66 rfl _ _ rfl rfl rfl hr (fun w' hN hS => ?_)))
      rw [ho, pv_yes ho, pm_yes ho]
      exact bodyPost_ret (tuple_row rfl _ _ _ rfl rfl hN) rfl ⟨rfl, hS.below hbel (Nat.le_succ _)⟩

theorem rd_some {w : World} {a : Option Addr} {b off : Nat} {l : List Int} (h : Rd w a b off l) (h8 : l.length = 8) : a = some ⟨b, off, none⟩ := h.head (by omega)

theorem pairs_any (aV aM : Option Addr) (bV oV cV bM oM cM : Nat) (V M : List Int) (w : World) (hV : Rd w aV bV oV V) (hM : Rd w aM bM oM M) (hW : Wide V) :
    Calls Try.prog 110 #[.agg #[.slice aV V.length cV, .slice aM M.length cM]] w fun e w' => e = .returned (.tuple #[.agg (enc (pv V M) (pm V M)), .bool (matchB V M)]) ∧ Below w.heap.size w w' := by
  by_cases h : V.length = 8 ∧ M.length = 8
  · obtain ⟨h1, h2⟩ := h
    obtain rfl := rd_some hV h1
    obtain rfl := rd_some hM h2
    rw [h1, h2]
    exact pairs_full bV oV cV bM oM cM V M w hV hM hW h1 h2
  · have ho := lens_no h
    rw [ho, pv_no ho, pm_no ho]
    exact pairs_short aV aM cV cM V M w h

end Go.Proofs.Ytcbhpmgjmpbpmaa.Po
namespace Go.Proofs.Ytcbhpmgjmpbpmaa.Pq
set_option maxRecDepth 8000
open Go Go.RowKit
open Num Pl Hr Hh Hf Hg Pa Pm Po
set_option linter.unusedSimpArgs false

theorem yields66 {ops : Array Oper} {S : World → Prop} {o : Oper} {a : Act} (hw : Region.wanted o (yielded ops a.tmps) = true) (x : Operand) (ho : o.op = .load 142 x)
    {g : Nat} (hx : a.eval x = .pointer (some ⟨g, 0, none⟩)) {v m : Nat → Int} (hS : ∀ w, S w → Has w g v m) : YieldsIf Try.prog ops S o (.agg (enc v m)) a :=
  .inl ⟨hw, fun w hw' => by
    unfold execOp
    simp only [ho, hx, Instr.loadAt, Instr.sureAddr, Sem.run_bind, Sem.run_pure, Result.andThen_ok, load_has (hS w hw')]⟩
theorem wp_store66 {o : Oper} {a : Act} {w : World} {K : Act → World → Prop} {Q : Exit → Act → World → Prop} (x y : Operand) (ho : o.op = .store 142 x y)
    {g : Nat} (hx : a.eval x = .pointer (some ⟨g, 0, none⟩)) {v m : Nat → Int} (hy : a.eval y = .agg (enc v m)) {v0 m0 : Nat → Int} (h : Has w g v0 m0)
    (hk : ∀ w', Has w' g v m → Same g w w' → K (a.put o.dst undef) w') : o.wp Try.prog a w K Q :=
  wp_store_row 142 x y ho g _ hx hy 142 _ h (info66' v m) (by rw [enc_size, enc_size]) (enc_one v m) (hk _ (has_setRow h) (same_setRow w g _))
/-- What yields under S is taken first; its slot told. -/
theorem take {md : Region.Mode} {ops : Array Oper} {Q : Exit → Act → World → Prop} {S : World → Prop} {i : Nat} {oi : Oper} {d : Option Tmp} {v : Value} {fuel : Nat} {listed : Array Bool} {a : Act} {w : World} (hi : ops[i]? = some oi) (hd : oi.dst = d)
    (hs : Region.noSelect ops = true) (hf : Region.free md ops listed i = true) (hr : (Region.ready md ops listed).contains i = true)
    (hQ : ∀ c a w, Q (.panic c) (a.put oi.dst v) w → Q (.panic c) a w) (hy : YieldsIf Try.prog ops S oi v a) (hS : S w)
    (h : wpAnyH Try.prog md ops Q S fuel (listed.setIfInBounds i true) (a.put d v) w) : wpAnyH Try.prog md ops Q S (fuel + 1) listed a w := by
  subst hd
  exact wpAnyH_take hi hs hf hr hQ hy hS h
theorem ready66 {md : Region.Mode} {ops : Array Oper} {Q : Exit → Act → World → Prop} {S : World → Prop} {fuel : Nat} {listed : Array Bool} {a : Act} {w : World} {i : Nat} {o : Oper} {rs : List Nat} (hi : ops[i]? = some o) (hgd : o.guard = none)
    (x y : Operand) (ho : o.op = .store 142 x y) (hd : o.dst = none) {g : Nat} (hx : a.eval x = .pointer (some ⟨g, 0, none⟩)) {v m : Nat → Int} (hy : a.eval y = .agg (enc v m)) {v0 m0 : Nat → Int} (h : Has w g v0 m0)
    (hS : ∀ w', Has w' g v m → Same g w w' → S w') (hk : ∀ w', Has w' g v m → Same g w w' → S w' → wpAnyH Try.prog md ops Q S fuel (listed.setIfInBounds i true) (a.put none undef) w')
    (hs : AllReadyH Try.prog md ops Q S fuel listed a w rs) : AllReadyH Try.prog md ops Q S fuel listed a w (i :: rs) :=
  AllReadyH.cons hi (fun K hK => by
    rw [if_pos (by simp only [Region.wanted, hgd])]
    exact wp_store66 x y ho hx hy h (fun w' hN hE => hK.out _ _ (hS w' hN hE) (fun hs' => by rw [hd]; exact hk w' hN hE hs'))) hs
theorem three_row {fn : Func} {p p' : Tmp} {q : Tmp} (h : fn.results = #[.cell p 142, .cell p' 142, .tmp q]) (tmps : Array Value) (w : World) (g g' : Nat) {v m v' m' : Nat → Int} {ok : Value}
    (hp : tmps.getD p undef = .pointer (some ⟨g, 0, none⟩)) (hp2 : tmps.getD p' undef = .pointer (some ⟨g', 0, none⟩)) (hq : tmps.getD q undef = ok) (hg : Has w g v m) (hg' : Has w g' v' m') :
    (results fn tmps).run Try.prog w = .ok (.tuple #[.agg (enc v m), .agg (enc v' m'), ok]) w := by
  have e1 : tmps[p]?.getD undef = .pointer (some ⟨g, 0, none⟩) := by simpa using hp
  have e2 : tmps[p']?.getD undef = .pointer (some ⟨g', 0, none⟩) := by simpa using hp2
  have e3 : tmps[q]?.getD undef = ok := by simpa using hq
  simp [results, h, e1, e2, e3, asAddr, load_has hg, load_has hg']

theorem below_two {w : World} {o1 o2 : Obj} : Below w.heap.size w ((w.alloc o1).alloc o2) := Rw.next (below_alloc1 _ _) (below_alloc1 _ _)

set_option maxHeartbeats 400000 in
theorem both_l (a1 a2 a3 a4 : Option Addr) (n1 n2 n3 n4 c1 c2 c3 c4 : Nat) (x y x' y' : Nat → Int) (p p' : Bool) (w : World)
    (hp : ∀ w1, Below w.heap.size w w1 → Calls Try.prog 110 #[.agg #[.slice a1 n1 c1, .slice a2 n2 c2]] w1 fun e w' => e = .returned (.tuple #[.agg (enc x y), .bool p]) ∧ Below w1.heap.size w1 w')
    (hp' : ∀ w1, Below w.heap.size w w1 → Calls Try.prog 110 #[.agg #[.slice a3 n3 c3, .slice a4 n4 c4]] w1 fun e w' => e = .returned (.tuple #[.agg (enc x' y'), .bool p']) ∧ Below w1.heap.size w1 w') :
    Calls Try.prog 140 #[.agg #[.slice a1 n1 c1, .slice a2 n2 c2], .agg #[.slice a3 n3 c3, .slice a4 n4 c4]] w fun e w' => e = .returned (.tuple #[.agg (enc x y), .agg (enc x' y'), .bool (p && p')]) ∧ Below w.heap.size w w' := by
  have HP : Hid (∀ w1, Below w.heap.size w w1 → Calls Try.prog 110 #[.agg #[.slice a1 n1 c1, .slice a2 n2 c2]] w1 fun e w' => e = .returned (.tuple #[.agg (enc x y), .bool p]) ∧ Below w1.heap.size w1 w') := hp
  have HQ : Hid (∀ w1, Below w.heap.size w w1 → Calls Try.prog 110 #[.agg #[.slice a3 n3 c3, .slice a4 n4 c4]] w1 fun e w' => e = .returned (.tuple #[.agg (enc x' y'), .bool p']) ∧ Below w1.heap.size w1 w') := hp'
  clear hp hp'
  obtain ⟨W0, hW0⟩ : ∃ W0, W0 = (((w.alloc (.cells #[.slice a1 n1 c1, .slice a2 n2 c2] 25)).alloc (.cells #[.slice a3 n3 c3, .slice a4 n4 c4] 25)).alloc (.cells #[.int .i64 0, .int .i64 0, .int .i64 0, .int .i64 0, .int .i64 0, .int .i64 0, .int .i64 0, .int .i64 0, .int .i64 0, .int .i64 0, .int .i64 0, .int .i64 0, .int .i64 0, .int .i64 0, .int .i64 0, .int .i64 0] 142)).alloc (.cells #[.int .i64 0, .int .i64 0, .int .i64 0, .int .i64 0, .int .i64 0, .int .i64 0, .int .i64 0, .int .i64 0, .int .i64 0, .int .i64 0, .int .i64 0, .int .i64 0, .int .i64 0, .int .i64 0, .int .i64 0, .int .i64 0] 142) := ⟨_, rfl⟩
  have B : Below w.heap.size w W0 := by subst hW0; exact Rw.next below_two below_two
  have k1 : W0.heap[w.heap.size + 1]? = some (.cells #[.slice a3 n3 c3, .slice a4 n4 c4] 25 (0, 0)) := by subst hW0; rw [at_old (by simp <;> omega), at_old (by simp), at_new (by simp)]
  have r1 : Has W0 (w.heap.size + 1 + 1) nul nul := by subst hW0; exact has_old (has_zero (by simp))
  have r2 : Has W0 (w.heap.size + 1 + 1 + 1) nul nul := by subst hW0; exact has_zero (by simp)
  have tok1 : True := trivial
  have tok2 : True := trivial
  go_enter Try.func140, Try.ntmps140
  go_wp2_with (first
    | (go_at_call 110; clear tok1; rw [← hW0]; refine (HP.out _ B).mono ?_; rintro e wa ⟨rfl, hb⟩; replace k1 := (hb.block _ (Array.getElem?_eq_some_iff.1 k1).1).trans k1; replace r1 := r1.below hb; replace r2 := r2.below hb; replace B := Rw.next B hb; have za := r2.lt; clear hb)
    | (refine store66 rfl _ _ rfl rfl rfl (has_zero rfl) (fun w1 hX hS => ?_); clear tok2; replace B := hS.below (Rw.next B (below_alloc1 _ _)) B.size; replace k1 := (hS.block _ (Nat.ne_of_lt (Array.getElem?_eq_some_iff.1 k1).1)).trans ((at_old (Array.getElem?_eq_some_iff.1 k1).1).trans k1); replace r1 := hS.has (has_old r1) (Nat.ne_of_lt r1.lt); replace r2 := hS.has (has_old r2) (Nat.ne_of_lt r2.lt); obtain ⟨d0, d1⟩ := two k1; have tok3 : True := trivial; have z1 := Nat.lt_of_lt_of_eq (Nat.lt_of_lt_of_eq (Nat.lt_succ_self _) (Eq.symm (World.size_alloc _ _))) hS.size.symm))
  clear d0 d1 k1 hW0 HP hS z1
  go_wp2_with (first
    | (go_at_call 110; clear tok3; refine (HQ.out _ B).mono ?_; rintro e wb ⟨rfl, hb⟩; replace r1 := r1.below hb; replace r2 := r2.below hb; replace hX := hX.below hb; replace B := Rw.next B hb; have zb := hX.lt; have zc := B.size; clear hb)
    | (refine store66 rfl _ _ rfl rfl rfl (has_zero rfl) (fun w2 hY hS2 => ?_); replace B := hS2.below (Rw.next B (below_alloc1 _ _)) B.size; replace r1 := hS2.has (has_old r1) (Nat.ne_of_lt r1.lt); replace r2 := hS2.has (has_old r2) (Nat.ne_of_lt r2.lt); replace hX := hS2.has (has_old hX) (Nat.ne_of_lt hX.lt)))
  clear hS2 HQ
  have m1 : wa.heap.size ≠ w.heap.size + 1 + 1 := by omega
  have m2 : wb.heap.size ≠ w.heap.size + 1 + 1 := by omega
  have m3 : w.heap.size + 1 + 1 + 1 ≠ w.heap.size + 1 + 1 := by omega
  have m4 : wa.heap.size ≠ w.heap.size + 1 + 1 + 1 := by omega
  have m5 : wb.heap.size ≠ w.heap.size + 1 + 1 + 1 := by omega
  have m6 : w.heap.size + 1 + 1 ≠ w.heap.size + 1 + 1 + 1 := by omega
  have m7 : w.heap.size ≤ w.heap.size + 1 + 1 := by omega
  have m8 : w.heap.size ≤ w.heap.size + 1 + 1 + 1 := by omega
  cases p with
  | true =>
    refine wp_region_held_drew (S := (fun w' => Has w' wa.heap.size x y ∧ Has w' wb.heap.size x' y' ∧ (∃ v m, Has w' (w.heap.size + 1 + 1) v m) ∧ ∃ v m, Has w' (w.heap.size + 1 + 1 + 1) v m)) (by kernel_rfl) ⟨hX.drew, hY.drew, ⟨_, _, r1.drew⟩, ⟨_, _, r2.drew⟩⟩ (fun hHeld => ?_)
    refine take (i := 0) (d := some 21) (v := _) rfl (by kernel_rfl) (by kernel_rfl) (by kernel_rfl) (by kernel_rfl) (fun _ _ _ h => h) (yields66 (by rfl) _ rfl rfl (fun w h => h.1)) hHeld ?_
    simp only [Act.put, List.setIfInBounds_toArray, List.set_cons_zero, List.set_cons_succ]
    refine take (i := 1) (d := some 22) (v := _) rfl (by kernel_rfl) (by kernel_rfl) (by kernel_rfl) (by kernel_rfl) (fun _ _ _ h => h) (yields66 (by rfl) _ rfl rfl (fun w h => h.2.1)) hHeld ?_
    simp only [Act.put, List.setIfInBounds_toArray, List.set_cons_zero, List.set_cons_succ]
    refine take (i := 2) (d := some 23) (v := .bool true) rfl (by kernel_rfl) (by kernel_rfl) (by kernel_rfl) (by kernel_rfl) (fun _ _ _ h => h) (Or.inl ⟨by rfl, by intro w hSw; go_simp⟩) hHeld ?_
    simp only [Act.put, List.setIfInBounds_toArray, List.set_cons_zero, List.set_cons_succ]
    refine take (i := 3) (d := some 24) (v := .bool true) rfl (by kernel_rfl) (by kernel_rfl) (by kernel_rfl) (by kernel_rfl) (fun _ _ _ h => h) (Or.inl ⟨by rfl, by intro w hSw; go_simp⟩) hHeld ?_
    simp only [Act.put, List.setIfInBounds_toArray, List.set_cons_zero, List.set_cons_succ]
    refine take (i := 4) (d := some 25) (v := .bool p') rfl (by kernel_rfl) (by kernel_rfl) (by kernel_rfl) (by kernel_rfl) (fun _ _ _ h => h) (Or.inl ⟨by rfl, by intro w hSw; go_simp⟩) hHeld ?_
    simp only [Act.put, List.setIfInBounds_toArray, List.set_cons_zero, List.set_cons_succ]
    refine take (i := 5) (d := some 26) (v := .bool p') rfl (by kernel_rfl) (by kernel_rfl) (by kernel_rfl) (by kernel_rfl) (fun _ _ _ h => h) (Or.inl ⟨by rfl, by intro w hSw; go_simp⟩) hHeld ?_
    simp only [Act.put, List.setIfInBounds_toArray, List.set_cons_zero, List.set_cons_succ]
    refine wpAnyH_ready (rs := [6]) (by kernel_rfl) (by simp) (ready66 (v := x) (m := y) (g := w.heap.size + 1 + 1) rfl (by kernel_rfl) (.tmp 4) (.tmp 21) (by kernel_rfl) (by kernel_rfl) (by kernel_rfl) (by kernel_rfl) r1.drew (fun w3 hN3 hS3 => ⟨hS3.has hX.drew m1, hS3.has hY.drew m2, ⟨_, _, hN3⟩, ⟨_, _, hS3.has r2.drew m3⟩⟩) (fun w3 hN3 hS3 hHeld => ?_) AllReadyH.nil)
    simp only [Act.put, List.setIfInBounds_toArray, List.set_cons_zero, List.set_cons_succ]
    refine wpAnyH_ready (rs := [7]) (by kernel_rfl) (by simp) (ready66 (v := x') (m := y') (g := w.heap.size + 1 + 1 + 1) rfl (by kernel_rfl) (.tmp 5) (.tmp 22) (by kernel_rfl) (by kernel_rfl) (by kernel_rfl) (by kernel_rfl) (hS3.has r2.drew m3) (fun w4 hN4 hS4 => ⟨hS4.has (hS3.has hX.drew m1) m4, hS4.has (hS3.has hY.drew m2) m5, ⟨_, _, hS4.has hN3 m6⟩, ⟨_, _, hN4⟩⟩) (fun w4 hN4 hS4 hHeld => ?_) AllReadyH.nil)
    simp only [Act.put, List.setIfInBounds_toArray, List.set_cons_zero, List.set_cons_succ]
    refine take (i := 8) (d := some 6) (v := .bool p') rfl (by kernel_rfl) (by kernel_rfl) (by kernel_rfl) (by kernel_rfl) (fun _ _ _ h => h) (Or.inl ⟨by rfl, by intro w hSw; go_simp⟩) hHeld ?_
    simp only [Act.put, List.setIfInBounds_toArray, List.set_cons_zero, List.set_cons_succ]
    refine wpAnyH_done (by kernel_rfl) ?_ _
    go_wp2_with fail
    refine bodyPost_ret (three_row rfl _ _ _ _ rfl rfl rfl (hS4.has hN3 m6) hN4) rfl ⟨rfl, hS4.below (hS3.below B.drew m7) m8⟩
  | false =>
    refine wp_region_held_drew (S := (fun w' => Has w' wa.heap.size x y ∧ Has w' wb.heap.size x' y' ∧ (∃ v m, Has w' (w.heap.size + 1 + 1) v m) ∧ ∃ v m, Has w' (w.heap.size + 1 + 1 + 1) v m)) (by kernel_rfl) ⟨hX.drew, hY.drew, ⟨_, _, r1.drew⟩, ⟨_, _, r2.drew⟩⟩ (fun hHeld => ?_)
    refine take (i := 0) (d := some 21) (v := _) rfl (by kernel_rfl) (by kernel_rfl) (by kernel_rfl) (by kernel_rfl) (fun _ _ _ h => h) (yields66 (by rfl) _ rfl rfl (fun w h => h.1)) hHeld ?_
    simp only [Act.put, List.setIfInBounds_toArray, List.set_cons_zero, List.set_cons_succ]
    refine take (i := 1) (d := some 22) (v := _) rfl (by kernel_rfl) (by kernel_rfl) (by kernel_rfl) (by kernel_rfl) (fun _ _ _ h => h) (yields66 (by rfl) _ rfl rfl (fun w h => h.2.1)) hHeld ?_
    simp only [Act.put, List.setIfInBounds_toArray, List.set_cons_zero, List.set_cons_succ]
    refine take (i := 2) (d := some 23) (v := .bool false) rfl (by kernel_rfl) (by kernel_rfl) (by kernel_rfl) (by kernel_rfl) (fun _ _ _ h => h) (Or.inl ⟨by rfl, by intro w hSw; go_simp⟩) hHeld ?_
    simp only [Act.put, List.setIfInBounds_toArray, List.set_cons_zero, List.set_cons_succ]
    refine take (i := 3) (d := some 24) (v := .bool false) rfl (by kernel_rfl) (by kernel_rfl) (by kernel_rfl) (by kernel_rfl) (fun _ _ _ h => h) (Or.inl ⟨by rfl, by intro w hSw; go_simp⟩) hHeld ?_
    simp only [Act.put, List.setIfInBounds_toArray, List.set_cons_zero, List.set_cons_succ]
    refine take (i := 4) (d := some 25) (v := undef) rfl (by kernel_rfl) (by kernel_rfl) (by kernel_rfl) (by kernel_rfl) (fun _ _ _ h => h) (Or.inr ⟨by rfl, rfl⟩) hHeld ?_
    simp only [Act.put, List.setIfInBounds_toArray, List.set_cons_zero, List.set_cons_succ]
    refine take (i := 5) (d := some 26) (v := .bool false) rfl (by kernel_rfl) (by kernel_rfl) (by kernel_rfl) (by kernel_rfl) (fun _ _ _ h => h) (Or.inl ⟨by rfl, by intro w hSw; go_simp⟩) hHeld ?_
    simp only [Act.put, List.setIfInBounds_toArray, List.set_cons_zero, List.set_cons_succ]
    refine wpAnyH_ready (rs := [6]) (by kernel_rfl) (by simp) (ready66 (v := x) (m := y) (g := w.heap.size + 1 + 1) rfl (by kernel_rfl) (.tmp 4) (.tmp 21) (by kernel_rfl) (by kernel_rfl) (by kernel_rfl) (by kernel_rfl) r1.drew (fun w3 hN3 hS3 => ⟨hS3.has hX.drew m1, hS3.has hY.drew m2, ⟨_, _, hN3⟩, ⟨_, _, hS3.has r2.drew m3⟩⟩) (fun w3 hN3 hS3 hHeld => ?_) AllReadyH.nil)
    simp only [Act.put, List.setIfInBounds_toArray, List.set_cons_zero, List.set_cons_succ]
    refine wpAnyH_ready (rs := [7]) (by kernel_rfl) (by simp) (ready66 (v := x') (m := y') (g := w.heap.size + 1 + 1 + 1) rfl (by kernel_rfl) (.tmp 5) (.tmp 22) (by kernel_rfl) (by kernel_rfl) (by kernel_rfl) (by kernel_rfl) (hS3.has r2.drew m3) (fun w4 hN4 hS4 => ⟨hS4.has (hS3.has hX.drew m1) m4, hS4.has (hS3.has hY.drew m2) m5, ⟨_, _, hS4.has hN3 m6⟩, ⟨_, _, hN4⟩⟩) (fun w4 hN4 hS4 hHeld => ?_) AllReadyH.nil)
    simp only [Act.put, List.setIfInBounds_toArray, List.set_cons_zero, List.set_cons_succ]
    refine take (i := 8) (d := some 6) (v := .bool false) rfl (by kernel_rfl) (by kernel_rfl) (by kernel_rfl) (by kernel_rfl) (fun _ _ _ h => h) (Or.inl ⟨by rfl, by intro w hSw; go_simp⟩) hHeld ?_
    simp only [Act.put, List.setIfInBounds_toArray, List.set_cons_zero, List.set_cons_succ]
    refine wpAnyH_done (by kernel_rfl) ?_ _
    go_wp2_with fail
    refine bodyPost_ret (three_row rfl _ _ _ _ rfl rfl rfl (hS4.has hN3 m6) hN4) rfl ⟨rfl, hS4.below (hS3.below B.drew m7) m8⟩

end Go.Proofs.Ytcbhpmgjmpbpmaa.Pq
namespace Go.Proofs.Ytcbhpmgjmpbpmaa.Pe
set_option maxRecDepth 8000
open Go Go.RowKit
open Num Pl Hr Hh Pa

/-- The pairs are the same. -/
def sameB (x y x' y' : Nat → Int) : Bool := (List.range 8).all fun i => x i == x' i && y i == y' i
theorem part_any {v m : Nat → Int} {k : Nat} (hk : k < 8) (w : World) : (part 140 (enc v m) (k * 2)).run Try.prog w = .ok (.agg #[.int .i64 (v k), .int .i64 (m k)]) w := by
  have hk8 : k = 0 ∨ k = 1 ∨ k = 2 ∨ k = 3 ∨ k = 4 ∨ k = 5 ∨ k = 6 ∨ k = 7 := by omega
  have i0 : (part 140 (enc v m) (0 * 2)).run Try.prog w = .ok (.agg #[.int .i64 (v 0), .int .i64 (m 0)]) w := by kernel_rfl
  have i1 : (part 140 (enc v m) (1 * 2)).run Try.prog w = .ok (.agg #[.int .i64 (v 1), .int .i64 (m 1)]) w := by kernel_rfl
  have i2 : (part 140 (enc v m) (2 * 2)).run Try.prog w = .ok (.agg #[.int .i64 (v 2), .int .i64 (m 2)]) w := by kernel_rfl
  have i3 : (part 140 (enc v m) (3 * 2)).run Try.prog w = .ok (.agg #[.int .i64 (v 3), .int .i64 (m 3)]) w := by kernel_rfl
  have i4 : (part 140 (enc v m) (4 * 2)).run Try.prog w = .ok (.agg #[.int .i64 (v 4), .int .i64 (m 4)]) w := by kernel_rfl
  have i5 : (part 140 (enc v m) (5 * 2)).run Try.prog w = .ok (.agg #[.int .i64 (v 5), .int .i64 (m 5)]) w := by kernel_rfl
  have i6 : (part 140 (enc v m) (6 * 2)).run Try.prog w = .ok (.agg #[.int .i64 (v 6), .int .i64 (m 6)]) w := by kernel_rfl
  have i7 : (part 140 (enc v m) (7 * 2)).run Try.prog w = .ok (.agg #[.int .i64 (v 7), .int .i64 (m 7)]) w := by kernel_rfl
  rcases hk8 with rfl | rfl | rfl | rfl | rfl | rfl | rfl | rfl
  · exact i0
  · exact i1
  · exact i2
  · exact i3
  · exact i4
  · exact i5
  · exact i6
  · exact i7

theorem eq64 (d : Nat) (a b c e : Int) (w : World) : (Op.equalIn (d + 1 + 1) 140 (.agg #[.int .i64 a, .int .i64 b]) (.agg #[.int .i64 c, .int .i64 e])).run Try.prog w = .ok (a == c && b == e) w := by
  have h1 : Try.prog.stoodInHeld 140 = false := by kernel_rfl
  simp [go_sem, h1]
  by_cases e1 : a = c <;> by_cases e2 : b = e <;> simp [e1, e2]

theorem items (d : Nat) (x y x' y' : Nat → Int) (w : World) : ∀ is : List Nat, (∀ i ∈ is, i < 8) → (Op.eqItems (d + 1 + 1) 140 2 (enc x y) (enc x' y') is).run Try.prog w = .ok (is.all fun i => x i == x' i && y i == y' i) w
  | [], _ => by simp [Op.eqItems]
  | i :: is, h => by
    have hi : i < 8 := h i (by simp)
    simp only [Op.eqItems, Sem.run_bind, part_any hi, Result.andThen_ok, eq64, List.all_cons]
    cases hb : (x i == x' i && y i == y' i) with
    | false => simp
    | true => simpa using items d x y x' y' w is (fun j hj => h j (by simp [hj]))

theorem eql_any (x y x' y' : Nat → Int) (w : World) : (binOp .eql 142 (.agg (enc x y)) (.agg (enc x' y'))).run Try.prog w = .ok (.bool (sameB x y x' y')) w := by
  obtain ⟨i, hi⟩ : ∃ i, Try.prog.info? 140 = some i := by
    have h : (Try.prog.info? 140).isSome = true := by kernel_rfl
    exact Option.isSome_iff_exists.1 h
  have hc : Try.prog.cellsOf 140 = 2 := by kernel_rfl
  rw [run_eql_struct]
  have e : (Op.equalIn 10000 142 (.agg (enc x y)) (.agg (enc x' y'))).run Try.prog w = .ok (sameB x y x' y') w := by
    show (Op.equalIn (9997 + 1 + 1 + 1) 142 _ _).run Try.prog w = _
    rw [run_equalIn_array w _ _ _ Try.underlying142 hi, hc, items 9997 x y x' y' w (List.range 8) (fun i hi => by simpa using hi)]
    rfl
  rw [e]
  rfl
theorem neq_any (x y x' y' : Nat → Int) (w : World) : (binOp .neq 142 (.agg (enc x y)) (.agg (enc x' y'))).run Try.prog w = .ok (.bool (!sameB x y x' y')) w := by
  obtain ⟨i, hi⟩ : ∃ i, Try.prog.info? 140 = some i := by
    have h : (Try.prog.info? 140).isSome = true := by kernel_rfl
    exact Option.isSome_iff_exists.1 h
  have hc : Try.prog.cellsOf 140 = 2 := by kernel_rfl
  rw [run_neq_struct]
  have e : (Op.equalIn 10000 142 (.agg (enc x y)) (.agg (enc x' y'))).run Try.prog w = .ok (sameB x y x' y') w := by
    show (Op.equalIn (9997 + 1 + 1 + 1) 142 _ _).run Try.prog w = _
    rw [run_equalIn_array w _ _ _ Try.underlying142 hi, hc, items 9997 x y x' y' w (List.range 8) (fun i hi => by simpa using hi)]
    rfl
  rw [e]
  rfl
theorem guard66 : Try.prog.eqGuardType Try.prog.depth 142 = false := by kernel_rfl

end Go.Proofs.Ytcbhpmgjmpbpmaa.Pe
namespace Go.Proofs.Ytcbhpmgjmpbpmaa.Mi
set_option maxRecDepth 8000
open Go Go.RowKit
open Num Pl Hr Hh Hf Hg Pa Pm Po Pq Pe
set_option linter.unusedSimpArgs false

theorem readyCall2 {md : Region.Mode} {ops : Array Oper} {Q : Exit → Act → World → Prop} {S : World → Prop} {fuel : Nat} {listed : Array Bool} {a : Act} {w : World} {i : Nat} {o : Oper} {rs : List Nat} (hi : ops[i]? = some o) (hw : Region.wanted o (yielded ops a.tmps) = true)
    (f : FuncId) (x y : Operand) (t t' : TypeId) (hop : o.op = Op.call { callee := Callee.value (Operand.func f), args := #[x, y], argTypes := #[t, t'] }) (d : Tmp) (hd : o.dst = some d)
    (u u' : Value) (hx : a.eval x = u) (hy : a.eval y = u') (he : ∀ w, (callFunc f #[u, u']).run Try.prog w = .ok (.enter f #[u, u']) w) {v : Value} {B : World → Prop} (hc : Calls Try.prog f #[u, u'] w fun e w' => e = .returned v ∧ B w')
    (hS : ∀ w', B w' → S w') (hk : ∀ w', B w' → S w' → wpAnyH Try.prog md ops Q S fuel (listed.setIfInBounds i true) (a.put (some d) v) w')
    (hs : AllReadyH Try.prog md ops Q S fuel listed a w rs) : AllReadyH Try.prog md ops Q S fuel listed a w (i :: rs) :=
  AllReadyH.cons hi (fun K hK => by
    rw [if_pos hw]
    unfold Oper.wp
    have hf : a.eval (.func f) = .func (.func f) #[] #[] := rfl
    simp [execOp, hop, resolve, invoke, hx, hy, hf, Deferred.ofValue, he w]
    refine hc.mono ?_
    rintro e w' ⟨rfl, hb⟩
    exact hK.out _ _ (hS w' hb) (fun hs' => by rw [hd]; exact hk w' hb hs')) hs

/-- What two matches are made of, in all later worlds. -/
def Two (a1 a2 a3 a4 : Option Addr) (n1 n2 n3 n4 c1 c2 c3 c4 : Nat) (x y x' y' : Nat → Int) (q : Bool) (w : World) : Prop :=
  ∀ w1, Below w.heap.size w w1 → Calls Try.prog 140 #[.agg #[.slice a1 n1 c1, .slice a2 n2 c2], .agg #[.slice a3 n3 c3, .slice a4 n4 c4]] w1 fun e w' => e = .returned (.tuple #[.agg (enc x y), .agg (enc x' y'), .bool q]) ∧ Below w1.heap.size w1 w'

theorem two_any {aV aM aV' aM' : Option Addr} {bV oV bM oM bV' oV' bM' oM' : Nat} (cV cM cV' cM' : Nat) {V M V' M' : List Int} {w : World} (hV : Rd w aV bV oV V) (hM : Rd w aM bM oM M) (hW : Wide V) (hV' : Rd w aV' bV' oV' V') (hM' : Rd w aM' bM' oM' M') (hW' : Wide V') :
    Two aV aM aV' aM' V.length M.length V'.length M'.length cV cM cV' cM' (pv V M) (pm V M) (pv V' M') (pm V' M') (matchB V M && matchB V' M') w := fun w1 h1 =>
  both_l aV aM aV' aM' _ _ _ _ cV cM cV' cM' _ _ _ _ _ _ w1
    (fun w2 h2 => pairs_any aV aM bV oV cV bM oM cM V M w2 (hV.below (Rw.next h1 h2)) (hM.below (Rw.next h1 h2)) hW)
    (fun w2 h2 => pairs_any aV' aM' bV' oV' cV' bM' oM' cM' V' M' w2 (hV'.below (Rw.next h1 h2)) (hM'.below (Rw.next h1 h2)) hW')

/-- A load of all the pairs behind a guard that holds. -/
theorem load66g {ops : Array Oper} {rest : List Oper} {o : Oper} {a : Act} {w : World} {Q : Exit → Act → World → Prop} (hw : Region.wanted o (yielded ops a.tmps) = true) (x : Operand) (ho : o.op = .load 142 x)
    {g : Nat} (hx : a.eval x = .pointer (some ⟨g, 0, none⟩)) {v m : Nat → Int} (h : Has w g v m)
    (hk : wpList Try.prog ops Q rest (a.put o.dst (.agg (enc v m))) w) : wpList Try.prog ops Q (o :: rest) a w :=
  wpList_step fun K hK => by
    rw [if_pos hw]
    exact wp_load_row 142 x ho g hx 142 _ (0, 0) _ h Try.underlying142 rfl (info66' v m) (hK _ _ hk)
theorem below2 (w : World) (o o' : Obj) : Below w.heap.size w ((w.alloc o).alloc o') := Rw.next (below_alloc1 _ _) (below_alloc1 _ _)


set_option maxHeartbeats 2000000 in
theorem covers_l (a1 a2 a3 a4 : Option Addr) (n1 n2 n3 n4 c1 c2 c3 c4 : Nat) (x y x' y' : Nat → Int) (q : Bool) (w : World) (h : Two a1 a2 a3 a4 n1 n2 n3 n4 c1 c2 c3 c4 x y x' y' q w) :
    Calls Try.prog 57 #[.agg #[.slice a1 n1 c1, .slice a2 n2 c2], .agg #[.slice a3 n3 c3, .slice a4 n4 c4]] w fun e w' => e = .returned (.bool (q && sameB (fun k => bits .and .i64 (x' k) (y k)) (fun k => bits .and .i64 (y' k) (y k)) x y)) ∧ Below w.heap.size w w' := by
  have heq := fun w => eql_any (fun k => bits .and .i64 (x' k) (y k)) (fun k => bits .and .i64 (y' k) (y k)) x y w
  have hgd := guard66
  generalize sameB (fun k => bits .and .i64 (x' k) (y k)) (fun k => bits .and .i64 (y' k) (y k)) x y = R at heq ⊢
  cases q with
  | true =>
    have HT : Hid (Two a1 a2 a3 a4 n1 n2 n3 n4 c1 c2 c3 c4 x y x' y' true w) := h
    obtain ⟨W0, hW0⟩ : ∃ W0, W0 = ((w.alloc (.cells #[.slice a1 n1 c1, .slice a2 n2 c2] 25)).alloc (.cells #[.slice a3 n3 c3, .slice a4 n4 c4] 25)) := ⟨_, rfl⟩
    have B : Below w.heap.size w W0 := by subst hW0; exact below2 _ _ _
    clear h
    have tok1 : True := trivial
    go_enter Try.func57, Try.ntmps57
    go_wp2_with (first
      | (go_at_call 140; rw [← hW0]; clear hW0; refine (HT.out _ B).mono ?_; rintro e wa ⟨rfl, hb⟩; have ZB := Nat.le_trans B.size hb.size; replace B := Rw.next B hb; clear hb HT)
      | (clear tok1; refine store66 rfl _ _ rfl rfl rfl (has_old (has_zero rfl)) (fun w1 hX hS => ?_); have hZ := hS.has (has_zero (g := wa.heap.size + 1) (by simp)) (by simp); replace B := hS.below (Rw.next B (below2 _ _ _)) B.size; have tok2 : True := trivial; clear hS)
      | (clear tok2; refine store66 rfl _ _ rfl rfl rfl hZ (fun w2 hY hS => ?_); replace hX := hS.has hX (by simp); replace B := hS.below B (Nat.le_succ_of_le ZB); clear hS hZ))
    refine wp_region_held_drew (S := (fun w' => Has w' wa.heap.size x y ∧ Has w' (wa.heap.size + 1) x' y')) (by kernel_rfl) ⟨hX.drew, hY.drew⟩ (fun hHeld => ?_)
    refine take (i := 0) (d := some 15) (v := .bool true) rfl (by kernel_rfl) (by kernel_rfl) (by kernel_rfl) (by kernel_rfl) (fun _ _ _ h => h) (Or.inl ⟨by rfl, by intro w hSw; go_simp⟩) hHeld ?_
    simp only [Act.put, List.setIfInBounds_toArray, List.set_cons_zero, List.set_cons_succ]
    refine take (i := 1) (d := some 16) (v := .bool true) rfl (by kernel_rfl) (by kernel_rfl) (by kernel_rfl) (by kernel_rfl) (fun _ _ _ h => h) (Or.inl ⟨by rfl, by intro w hSw; go_simp⟩) hHeld ?_
    simp only [Act.put, List.setIfInBounds_toArray, List.set_cons_zero, List.set_cons_succ]
    refine take (i := 2) (d := some 17) (v := _) rfl (by kernel_rfl) (by kernel_rfl) (by kernel_rfl) (by kernel_rfl) (fun _ _ _ h => h) (yields66 (by rfl) _ rfl rfl (fun w h => h.2)) hHeld ?_
    simp only [Act.put, List.setIfInBounds_toArray, List.set_cons_zero, List.set_cons_succ]
    refine take (i := 3) (d := some 18) (v := _) rfl (by kernel_rfl) (by kernel_rfl) (by kernel_rfl) (by kernel_rfl) (fun _ _ _ h => h) (yields66 (by rfl) _ rfl rfl (fun w h => h.1)) hHeld ?_
    simp only [Act.put, List.setIfInBounds_toArray, List.set_cons_zero, List.set_cons_succ]
    refine take (i := 5) (d := some 20) (v := _) rfl (by kernel_rfl) (by kernel_rfl) (by kernel_rfl) (by kernel_rfl) (fun _ _ _ h => h) (yields66 (by rfl) _ rfl rfl (fun w h => h.1)) hHeld ?_
    simp only [Act.put, List.setIfInBounds_toArray, List.set_cons_zero, List.set_cons_succ]
    refine wpAnyH_ready (rs := [4]) (by kernel_rfl) (by simp) (readyCall2 rfl (by kernel_rfl) 141 (.tmp 17) (.tmp 18) 142 142 (by kernel_rfl) 19 (by kernel_rfl) _ _ (by kernel_rfl) (by kernel_rfl) (fun _ => rfl) (under_any x' y' x y _) (fun w3 hb => ⟨hX.drew.below hb, hY.drew.below hb⟩) (fun w3 hb hHeld => ?_) AllReadyH.nil)
    simp only [Act.put, List.setIfInBounds_toArray, List.set_cons_zero, List.set_cons_succ]
    refine take (i := 6) (d := some 21) (v := .bool R) rfl (by kernel_rfl) (by kernel_rfl) (by kernel_rfl) (by kernel_rfl) (fun _ _ _ h => h) (Or.inl ⟨by rfl, by intro w hSw; go_simp⟩) hHeld ?_
    simp only [Act.put, List.setIfInBounds_toArray, List.set_cons_zero, List.set_cons_succ]
    refine take (i := 7) (d := some 22) (v := .bool R) rfl (by kernel_rfl) (by kernel_rfl) (by kernel_rfl) (by kernel_rfl) (fun _ _ _ h => h) (Or.inl ⟨by rfl, by intro w hSw; go_simp⟩) hHeld ?_
    simp only [Act.put, List.setIfInBounds_toArray, List.set_cons_zero, List.set_cons_succ]
    refine take (i := 8) (d := some 4) (v := .bool R) rfl (by kernel_rfl) (by kernel_rfl) (by kernel_rfl) (by kernel_rfl) (fun _ _ _ h => h) (Or.inl ⟨by rfl, by intro w hSw; go_simp⟩) hHeld ?_
    simp only [Act.put, List.setIfInBounds_toArray, List.set_cons_zero, List.set_cons_succ]
    refine wpAnyH_done (by kernel_rfl) ?_ _
    go_wp2_with fail
    go_ret
    exact ⟨rfl, Rw.next B.drew hb⟩
  | false =>
    have HT : Hid (Two a1 a2 a3 a4 n1 n2 n3 n4 c1 c2 c3 c4 x y x' y' false w) := h
    obtain ⟨W0, hW0⟩ : ∃ W0, W0 = ((w.alloc (.cells #[.slice a1 n1 c1, .slice a2 n2 c2] 25)).alloc (.cells #[.slice a3 n3 c3, .slice a4 n4 c4] 25)) := ⟨_, rfl⟩
    have B : Below w.heap.size w W0 := by subst hW0; exact below2 _ _ _
    clear h
    have tok1 : True := trivial
    go_enter Try.func57, Try.ntmps57
    go_wp2_with (first
      | (go_at_call 140; rw [← hW0]; clear hW0; refine (HT.out _ B).mono ?_; rintro e wa ⟨rfl, hb⟩; have ZB := Nat.le_trans B.size hb.size; replace B := Rw.next B hb; clear hb HT)
      | (clear tok1; refine store66 rfl _ _ rfl rfl rfl (has_old (has_zero rfl)) (fun w1 hX hS => ?_); have hZ := hS.has (has_zero (g := wa.heap.size + 1) (by simp)) (by simp); replace B := hS.below (Rw.next B (below2 _ _ _)) B.size; have tok2 : True := trivial; clear hS)
      | (clear tok2; refine store66 rfl _ _ rfl rfl rfl hZ (fun w2 hY hS => ?_); replace hX := hS.has hX (by simp); replace B := hS.below B (Nat.le_succ_of_le ZB); clear hS hZ))
    refine wp_region_held_drew (S := (fun w' => Has w' wa.heap.size x y ∧ Has w' (wa.heap.size + 1) x' y')) (by kernel_rfl) ⟨hX.drew, hY.drew⟩ (fun hHeld => ?_)
    refine take (i := 0) (d := some 15) (v := .bool false) rfl (by kernel_rfl) (by kernel_rfl) (by kernel_rfl) (by kernel_rfl) (fun _ _ _ h => h) (Or.inl ⟨by rfl, by intro w hSw; go_simp⟩) hHeld ?_
    simp only [Act.put, List.setIfInBounds_toArray, List.set_cons_zero, List.set_cons_succ]
    refine take (i := 1) (d := some 16) (v := .bool false) rfl (by kernel_rfl) (by kernel_rfl) (by kernel_rfl) (by kernel_rfl) (fun _ _ _ h => h) (Or.inl ⟨by rfl, by intro w hSw; go_simp⟩) hHeld ?_
    simp only [Act.put, List.setIfInBounds_toArray, List.set_cons_zero, List.set_cons_succ]
    refine take (i := 2) (d := some 17) (v := undef) rfl (by kernel_rfl) (by kernel_rfl) (by kernel_rfl) (by kernel_rfl) (fun _ _ _ h => h) (Or.inr ⟨by rfl, rfl⟩) hHeld ?_
    simp only [Act.put, List.setIfInBounds_toArray, List.set_cons_zero, List.set_cons_succ]
    refine take (i := 3) (d := some 18) (v := undef) rfl (by kernel_rfl) (by kernel_rfl) (by kernel_rfl) (by kernel_rfl) (fun _ _ _ h => h) (Or.inr ⟨by rfl, rfl⟩) hHeld ?_
    simp only [Act.put, List.setIfInBounds_toArray, List.set_cons_zero, List.set_cons_succ]
    refine take (i := 4) (d := some 19) (v := undef) rfl (by kernel_rfl) (by kernel_rfl) (by kernel_rfl) (by kernel_rfl) (fun _ _ _ h => h) (Or.inr ⟨by rfl, rfl⟩) hHeld ?_
    simp only [Act.put, List.setIfInBounds_toArray, List.set_cons_zero, List.set_cons_succ]
    refine take (i := 5) (d := some 20) (v := undef) rfl (by kernel_rfl) (by kernel_rfl) (by kernel_rfl) (by kernel_rfl) (fun _ _ _ h => h) (Or.inr ⟨by rfl, rfl⟩) hHeld ?_
    simp only [Act.put, List.setIfInBounds_toArray, List.set_cons_zero, List.set_cons_succ]
    refine take (i := 6) (d := some 21) (v := undef) rfl (by kernel_rfl) (by kernel_rfl) (by kernel_rfl) (by kernel_rfl) (fun _ _ _ h => h) (Or.inr ⟨by rfl, rfl⟩) hHeld ?_
    simp only [Act.put, List.setIfInBounds_toArray, List.set_cons_zero, List.set_cons_succ]
    refine take (i := 7) (d := some 22) (v := .bool false) rfl (by kernel_rfl) (by kernel_rfl) (by kernel_rfl) (by kernel_rfl) (fun _ _ _ h => h) (Or.inl ⟨by rfl, by intro w hSw; go_simp⟩) hHeld ?_
    simp only [Act.put, List.setIfInBounds_toArray, List.set_cons_zero, List.set_cons_succ]
    refine take (i := 8) (d := some 4) (v := .bool false) rfl (by kernel_rfl) (by kernel_rfl) (by kernel_rfl) (by kernel_rfl) (fun _ _ _ h => h) (Or.inl ⟨by rfl, by intro w hSw; go_simp⟩) hHeld ?_
    simp only [Act.put, List.setIfInBounds_toArray, List.set_cons_zero, List.set_cons_succ]
    refine wpAnyH_done (by kernel_rfl) ?_ _
    go_wp2_with fail
    go_ret
    exact ⟨rfl, B.drew⟩

end Go.Proofs.Ytcbhpmgjmpbpmaa.Mi
namespace Go.Proofs.Ytcbhpmgjmpbpmaa.Mf
open Go Go.RowKit
set_option maxRecDepth 8000
open Num Pl Hr

/-- n marks from k0 on. -/
def marksF (k0 : Int) (n : Nat) : List Int := (List.range n).map (fun i : Nat => k0 + (i : Int))
theorem marksF_len (k0 : Int) (n : Nat) : (marksF k0 n).length = n := by simp [marksF]
theorem marksF_at (k0 : Int) (n i : Nat) (h : i < n) : (marksF k0 n).getD i 0 = k0 + (i : Int) := by simp [marksF, List.getD, h]
def mixedF (k0 : Int) (l : List Int) (k i : Nat) : Int := if i < k then k0 + (i : Int) else l.getD i 0

/-- All is kept but what the row of n numbers in block g may have become. -/
structure Kept (g n : Nat) (w w' : World) : Prop where
  os : w'.os = w.os
  tape : w'.tape = w.tape
  output : w'.output = w.output
  size : w.heap.size ≤ w'.heap.size
  block : ∀ k, k < w.heap.size → n = 0 ∨ k ≠ g → w'.heap[k]? = w.heap[k]?

theorem Kept.refl (g n : Nat) (w : World) : Kept g n w w := ⟨rfl, rfl, rfl, Nat.le_refl _, fun _ _ _ => rfl⟩
theorem Kept.only {g n : Nat} {w w' : World} (h : Kept g n w w') : Mk.Only g w w' := ⟨h.os, h.tape, h.output, h.size, fun k hk hne => h.block k hk (.inr (by simpa using hne))⟩
theorem Kept.below {g n : Nat} {w w' : World} (h : Kept g n w w') (hn : n = 0) : Below w.heap.size w w' := ⟨h.os, h.tape, h.output, h.size, fun k hk => h.block k hk (.inl hn)⟩
theorem kept_of {g n : Nat} {w w' : World} (ho : Mk.Only g w w') (h0 : n = 0 → Below w.heap.size w w') : Kept g n w w' :=
  ⟨ho.os, ho.tape, ho.output, ho.size, fun k hk hne => by
    rcases hne with h | h
    · exact (h0 h).block k hk
    · exact ho.block k hk (by simpa using h)⟩

/-- All is kept but two rows. -/
structure Kept2 (g n g' n' : Nat) (w w' : World) : Prop where
  os : w'.os = w.os
  tape : w'.tape = w.tape
  output : w'.output = w.output
  size : w.heap.size ≤ w'.heap.size
  block : ∀ k, k < w.heap.size → n = 0 ∨ k ≠ g → n' = 0 ∨ k ≠ g' → w'.heap[k]? = w.heap[k]?

theorem kept2 {g n g' n' : Nat} {w w1 w2 : World} (h : Kept g n w w1) (h' : Kept g' n' w1 w2) : Kept2 g n g' n' w w2 :=
  ⟨h'.os.trans h.os, h'.tape.trans h.tape, h'.output.trans h.output, Nat.le_trans h.size h'.size, fun k hk hne hne' => (h'.block k (Nat.lt_of_lt_of_le hk h.size) hne').trans (h.block k hk hne)⟩
theorem Kept2.pre {g n g' n' : Nat} {w w1 w2 : World} (hb : Below w.heap.size w w1) (h : Kept2 g n g' n' w1 w2) : Kept2 g n g' n' w w2 :=
  ⟨h.os.trans hb.os, h.tape.trans hb.tape, h.output.trans hb.output, Nat.le_trans hb.size h.size, fun k hk hne hne' => (h.block k (Nat.lt_of_lt_of_le hk hb.size) hne hne').trans (hb.block k hk)⟩
theorem Kept2.below {g n g' n' B : Nat} {w0 w w' : World} (hb : Below B w0 w) (hB : B ≤ w.heap.size) (h : Kept2 g n g' n' w w') (hg : n = 0 ∨ B ≤ g) (hg' : n' = 0 ∨ B ≤ g') : Below B w0 w' :=
  hb.trans ⟨h.os, h.tape, h.output, h.size, fun k hk => h.block k (Nat.lt_of_lt_of_le hk hB) (hg.imp id (by omega)) (hg'.imp id (by omega))⟩
theorem Kept2.rd {g n g' n' : Nat} {w w' : World} {a : Option Addr} {b off : Nat} {l : List Int} (h : Kept2 g n g' n' w w') (hr : Rd w a b off l) (hne : l.length = 0 ∨ ((n = 0 ∨ b ≠ g) ∧ (n' = 0 ∨ b ≠ g'))) : Rd w' a b off l := by
  refine ⟨hr.head, fun i hi => ?_, hr.size⟩
  rcases hne with h0 | ⟨h1, h2⟩
  · omega
  · exact (World.cell?_of_block (h.block b (World.block_lt_of_cell? _ _ (hr.cell i hi)) h1 h2)).trans (hr.cell i hi)
theorem Kept2.wt {g n g' n' : Nat} {w w' : World} {a : Option Addr} {b : Nat} {l : List Int} (h : Kept2 g n g' n' w w') (hr : Wt w a b l) (hne : l.length = 0 ∨ ((n = 0 ∨ b ≠ g) ∧ (n' = 0 ∨ b ≠ g'))) : Wt w' a b l := by
  refine ⟨hr.head, fun i hi => ?_, fun i hi => ?_, hr.size⟩
  · have := (h.rd hr.rd hne).cell i hi
    simpa using this
  · rcases hne with h0 | ⟨h1, h2⟩
    · omega
    · have hb := h.block b (World.block_lt_of_cell? _ _ (hr.cell i hi)) h1 h2
      have := hr.free i hi
      simp only [World.frozen?, hb] at this ⊢
      exact this

theorem markF_step {w : World} {g n k : Nat} {k0 : Int} {l : List Int} (h : ∀ i, i < n → w.cell? ⟨g, i, none⟩ = some (.int .i64 (mixedF k0 l k i))) (hk : k < n) :
    ∀ i, i < n → (w.setCell ⟨g, k, none⟩ (.int .i64 (k0 + (k : Int)))).cell? ⟨g, i, none⟩ = some (.int .i64 (mixedF k0 l (k + 1) i)) := by
  intro i hi
  by_cases e : i = k
  · subst e
    rw [World.cell?_setCell_same _ _ _ (h i hi)]
    simp [mixedF]
  · rw [World.cell?_setCell_other _ _ _ _ (by intro q; injection q with q1 q2; exact e q2.symm), h i hi]
    have : (i < k + 1) = (i < k) := by rw [eq_iff_iff]; omega
    simp [mixedF, this]

set_option maxHeartbeats 1000000 in
theorem markF_any (k0 : Int) (h0 : 0 ≤ k0) (h1 : k0 ≤ 1000000000000) (a : Option Addr) (g cap : Nat) (l : List Int) (w : World) (h : Wt w a g l) :
    Calls Try.prog 176 #[.slice a l.length cap, .int .i64 k0] w fun e w' => e = .returned (.int .i64 (k0 + (l.length : Int))) ∧ Kept g l.length w w' ∧ Wt w' a g (marksF k0 l.length) := by
  obtain ⟨hh, hc, hf, hs⟩ := h
  obtain ⟨n, hn⟩ : ∃ n, n = l.length := ⟨_, rfl⟩
  rw [← hn] at hh hc hs hf ⊢
  clear hn
  go_enter Try.func176, Try.ntmps176
  go_wp2
  go_loopw [1, 5] (fun q i wr => ∃ k : Nat, k ≤ n ∧ i = .int .i64 k ∧ q = .int .i64 (k0 + (k : Int)) ∧ Kept g n w wr ∧ (∀ i, i < n → wr.cell? ⟨g, i, none⟩ = some (.int .i64 (mixedF k0 l k i))) ∧ ∀ i, i < n → wr.frozen? ⟨g, i, none⟩ = false) (fun _ i _ => n - (intOf i).toNat)
  case atStart => exact ⟨0, Nat.zero_le _, rfl, by simp, Kept.refl _ _ _, fun i hi => by rw [hc i hi]; simp [mixedF], hf⟩
  case round =>
    obtain ⟨k, hk, rfl, rfl, hon, hcl, hfr⟩ := hrel
    have HCL : Hid (∀ i, i < n → wr.cell? ⟨g, i, none⟩ = some (.int .i64 (mixedF k0 l k i))) := hcl
    have HFR : Hid (∀ i, i < n → wr.frozen? ⟨g, i, none⟩ = false) := hfr
    by_cases hlt : k < n
    · obtain rfl := hh (by omega)
      have hkz : (k : Int) < (n : Int) := by omega
      have g1 : wr.cell? ⟨g, k, none⟩ = some (.int .i64 (mixedF k0 l k k)) := hcl k hlt
      have g2 : wr.frozen? ⟨g, k, none⟩ = false := hfr k hlt
      clear hc hf hcl hfr
      go_wp2
      go_roundw
      case rel => exact ⟨k + 1, by omega, by go_num, by go_num, ⟨hon.os, hon.tape, hon.output, by simpa using hon.size, fun j hj hne => (Below.heap_setCell wr _ _ j (fun e => by simp at e; omega)).trans (hon.block j hj hne)⟩, by first | exact markF_step HCL.out hlt | simpa using markF_step HCL.out hlt, fun i hi => by simpa using HFR.out i hi⟩
      case measure => simp [intOf]; omega
    · have he : k = n := by omega
      subst he
      clear hc hf hcl hfr
      go_wp2
      go_ret
      refine ⟨rfl, hon, ⟨fun hp => hh (by simpa [marksF_len] using hp), fun i hi => ?_, fun i hi => HFR.out i (by simpa [marksF_len] using hi), by rw [marksF_len]; exact hs⟩⟩
      rw [marksF_len] at hi
      rw [HCL.out i hi, marksF_at _ _ _ hi]
      simp [mixedF, hi]

set_option maxHeartbeats 1000000 in
theorem heldF_any (k0 : Int) (h0 : 0 ≤ k0) (h1 : k0 ≤ 1000000000000) (a : Option Addr) (g cap n : Nat) (w : World) (h : Wt w a g (marksF k0 n)) :
    Calls Try.prog 177 #[.slice a n cap, .int .i64 k0] w fun e w' => e = .returned (.int .i64 (k0 + (n : Int))) ∧ w' = w := by
  obtain ⟨hh, hc, hf, hs⟩ := h
  rw [marksF_len] at hh hc hs hf
  clear hf
  go_enter Try.func177, Try.ntmps177
  go_wp2
  go_loop [1, 5] (fun q i => ∃ k : Nat, k ≤ n ∧ i = .int .i64 k ∧ q = .int .i64 (k0 + (k : Int))) (fun _ i => n - (intOf i).toNat)
  case atStart => exact ⟨0, Nat.zero_le _, rfl, by simp⟩
  case round =>
    obtain ⟨k, hk, rfl, rfl⟩ := hrel
    by_cases hlt : k < n
    · obtain rfl := hh (by omega)
      have hkz : (k : Int) < (n : Int) := by omega
      have g1 := hc k hlt
      rw [marksF_at k0 n k hlt] at g1
      clear hc
      go_wp2
      go_round
      case rel => exact ⟨k + 1, by omega, by go_num, by go_num⟩
      case measure => simp [intOf]; omega
    · have he : k = n := by omega
      subst he
      clear hc
      go_wp2
      go_ret
      exact ⟨rfl, rfl⟩

end Go.Proofs.Ytcbhpmgjmpbpmaa.Mf
namespace Go.Proofs.Ytcbhpmgjmpbpmaa.Lm
open Go Go.ChangeShapes Go.WideShapes Go.RowKit
set_option maxRecDepth 8000
open Num Pl Hr Hh Mf Pm Po

theorem szM_small (a a' : Option Addr) (n c n' c' L : Nat) (w : World) (h : n + n' ≤ L) (hL : L ≤ 1048576) :
    Calls Try.prog 82 #[.agg #[.slice a n c, .slice a' n' c'], .int .i64 L] w fun e w' => e = .returned (.int .i64 ((L - n - n' : Nat) : Int)) ∧ Below w.heap.size w w' := by
  have h0 : ¬ ((L : Int) - (n : Int) < 0) := by omega
  have h1 : ¬ ((L : Int) - (n : Int) - (n' : Int) < 0) := by omega
  go_enter Try.func82, Try.ntmps82
  go_wp2
  go_ret
  exact ⟨Hf.ret_int (by omega), below_alloc1 _ _⟩

theorem szM_big (a a' : Option Addr) (n c n' c' L : Nat) (w : World) (h : L < n + n') (hL : L ≤ 1048576) (hn : n ≤ maxLen) (hn' : n' ≤ maxLen) :
    Calls Try.prog 82 #[.agg #[.slice a n c, .slice a' n' c'], .int .i64 L] w fun e w' => e = .returned (.int .i64 (-1)) ∧ Below w.heap.size w w' := by
  unfold maxLen at hn hn'
  by_cases h2 : n ≤ L
  · have h0 : ¬ ((L : Int) - (n : Int) < 0) := by omega
    have h1 : (L : Int) - (n : Int) - (n' : Int) < 0 := by omega
    go_enter Try.func82, Try.ntmps82
    go_wp2
    go_ret
    exact ⟨rfl, below_alloc1 _ _⟩
  · have h0 : (L : Int) - (n : Int) < 0 := by omega
    go_enter Try.func82, Try.ntmps82
    go_wp2
    go_ret
    exact ⟨rfl, below_alloc1 _ _⟩

theorem szH_small (a : Option Addr) (n c L : Nat) (w : World) (h : n ≤ L) (hL : L ≤ 1048576) :
    Calls Try.prog 84 #[.agg #[.slice a n c], .int .i64 L] w fun e w' => e = .returned (.int .i64 ((L - n : Nat) : Int)) ∧ Below w.heap.size w w' := by
  have h0 : ¬ ((L : Int) - (n : Int) < 0) := by omega
  go_enter Try.func84, Try.ntmps84
  go_wp2
  go_ret
  exact ⟨Hf.ret_int (by omega), below_alloc1 _ _⟩

theorem szH_big (a : Option Addr) (n c L : Nat) (w : World) (h : L < n) (hL : L ≤ 1048576) (hn : n ≤ maxLen) :
    Calls Try.prog 84 #[.agg #[.slice a n c], .int .i64 L] w fun e w' => e = .returned (.int .i64 (-1)) ∧ Below w.heap.size w w' := by
  unfold maxLen at hn
  have h0 : (L : Int) - (n : Int) < 0 := by omega
  go_enter Try.func84, Try.ntmps84
  go_wp2
  go_ret
  exact ⟨rfl, below_alloc1 _ _⟩

/-- A copy of a match. -/
def ResT (w : World) (V M : List Int) (e : Ending) (w' : World) : Prop :=
  ∃ gV gM, e = .returned (.agg #[.slice (some ⟨gV, 0, none⟩) V.length V.length, .slice (some ⟨gM, 0, none⟩) M.length M.length]) ∧ Below w.heap.size w w' ∧ w.heap.size ≤ gV ∧ w.heap.size ≤ gM ∧ gV ≠ gM ∧ Mine w' gV V ∧ Mine w' gM M

set_option maxHeartbeats 1000000 in
theorem toMatch_any (a a' : Option Addr) (b off c b' off' c' : Nat) (V M : List Int) (w : World) (hV : Rd w a b off V) (hM : Rd w a' b' off' M) :
    Calls Try.prog 85 #[.agg #[.slice a V.length c, .slice a' M.length c']] w (ResT w V M) := by
  obtain ⟨W0, hW0⟩ : ∃ W0, W0 = ((w.alloc (.cells #[.slice a V.length c, .slice a' M.length c'] 45)).alloc (.cells #[.slice none 0 0, .slice none 0 0] 25)).alloc (.cells #[.slice none 0 0, .slice none 0 0] 25) := ⟨_, rfl⟩
  have B0 : Below w.heap.size w W0 := by subst hW0; exact Rw.next (Rw.next (below_alloc1 _ _) (below_alloc1 _ _)) (below_alloc1 _ _)
  have z0 : W0.heap.size = w.heap.size + 3 := by subst hW0; simp
  have k0 : W0.heap[w.heap.size]? = some (.cells #[.slice a V.length c, .slice a' M.length c'] 45 (0, 0)) := by subst hW0; rw [at_old (by simp <;> omega), at_old (by simp), at_new rfl]
  have k1 : W0.heap[w.heap.size + 1]? = some (.cells #[.slice none 0 0, .slice none 0 0] 25 (0, 0)) := by subst hW0; rw [at_old (by simp), at_new (by simp)]
  have k2 : W0.heap[w.heap.size + 1 + 1]? = some (.cells #[.slice none 0 0, .slice none 0 0] 25 (0, 0)) := by subst hW0; rw [at_new (by simp)]
  have hV0 := hV.below B0
  have hM0 := hM.below B0
  have HM : Hid (Rd w a' b' off' M) := hM
  have HZ : Hid (W0.heap.size = w.heap.size + 3) := z0
  have lt0 : w.heap.size < W0.heap.size := by omega
  have lt1 : w.heap.size + 1 < W0.heap.size := by omega
  have lt2 : w.heap.size + 1 + 1 < W0.heap.size := by omega
  clear hV hM z0
  have tok1 : True := trivial
  go_enter Try.func85, Try.ntmps85
  go_wp2_with (go_at_call 169; clear tok1; rw [← hW0]; refine (toIntS_any _ _ _ _ _ _ hV0).mono ?_; rintro e wa ⟨rfl, hba, hma⟩; replace k0 := (hba.block _ lt0).trans k0; replace k1 := (hba.block _ lt1).trans k1; replace k2 := (hba.block _ lt2).trans k2; replace hM0 := hM0.below hba; have sa := hba.size; obtain ⟨p0, p1⟩ := two k0; obtain ⟨r0, r1⟩ := two k2; have f2 := Bl.free k2)
  clear hW0
  have eW : W0.heap.size = w.heap.size + 1 + 1 + 1 := HZ.out
  rw [eW] at hma
  obtain ⟨wb, hwb⟩ : ∃ wb, wb = wa.setCell ⟨w.heap.size + 1 + 1, 0, none⟩ (.slice (some ⟨w.heap.size + 1 + 1 + 1, 0, none⟩) V.length V.length) := ⟨_, rfl⟩
  rw [← hwb]
  have B1 : Below w.heap.size w wb := by subst hwb; exact bset (Rw.next B0 hba) (by omega)
  have sb : wb.heap.size = wa.heap.size := by subst hwb; simp
  have m1 : wb.heap[w.heap.size + 1]? = some (.cells #[.slice none 0 0, .slice none 0 0] 25 (0, 0)) := by subst hwb; exact blk_set k1 (by simp)
  have m2 : wb.heap[w.heap.size + 1 + 1]? = some (.cells #[.slice (some ⟨w.heap.size + 1 + 1 + 1, 0, none⟩) V.length V.length, .slice none 0 0] 25 (0, 0)) := by
    subst hwb
    simp [World.setCell, Array.getElem?_modify, k2]
  have n0 : Mine wb (w.heap.size + 1 + 1 + 1) V := by subst hwb; exact hma.set (by simp)
  have hM1 : Rd wb a' b' off' M := HM.out.below B1
  have lt1' : w.heap.size + 1 < wb.heap.size := by omega
  have lt2' : w.heap.size + 1 + 1 < wb.heap.size := by omega
  have lt3' : w.heap.size + 1 + 1 + 1 ≠ wb.heap.size := by have := n0.row.lt; omega
  have lt4' : w.heap.size ≤ wb.heap.size := by omega
  clear hwb k0 k1 k2 r0 r1 f2 p0 p1 hba hma eW HZ lt0 lt1 lt2 sa B0 hM0 hV0 sb
  go_wp2_with (go_at_call 169; refine (toIntS_any _ _ _ _ _ _ hM1).mono ?_; rintro e wc ⟨rfl, hbc, hmc⟩; replace m1 := (hbc.block _ lt1').trans m1; replace m2 := (hbc.block _ lt2').trans m2; replace n0 := n0.below hbc; replace B1 := Rw.next B1 hbc; obtain ⟨q0, q1⟩ := two m1; obtain ⟨r0, r1⟩ := two m2; have f1 := Bl.free m1; have f2 := Bl.free m2)
  refine bodyPost_ret (v := .agg #[.slice (some ⟨w.heap.size + 1 + 1 + 1, 0, none⟩) V.length V.length, .slice (some ⟨wb.heap.size, 0, none⟩) M.length M.length]) (by simp [results, Try.results85, go_sem, q0, q1]) rfl ⟨_, _, rfl, ?_, by omega, lt4', lt3', ?_, ?_⟩
  · exact bset (bset (bset B1 (by omega)) (by omega)) (by omega)
  · exact ((n0.set (by simp)).set (by simp)).set (by simp)
  · exact ((hmc.set (by simp; omega)).set (by simp; omega)).set (by simp; omega)

set_option maxHeartbeats 1000000 in
theorem eqMatch_same (a a2 a' a2' : Option Addr) (b off c b2 off2 c2 b' off' c' b2' off2' c2' : Nat) (V M : List Int) (w : World) (hV : Rd w a b off V) (hM : Rd w a2 b2 off2 M) (hV' : Rd w a' b' off' V) (hM' : Rd w a2' b2' off2' M) :
    Calls Try.prog 90 #[.agg #[.slice a V.length c, .slice a2 M.length c2], .agg #[.slice a' V.length c', .slice a2' M.length c2']] w fun e w' => e = .returned (.bool true) ∧ Below w.heap.size w w' := by
  obtain ⟨W0, hW0⟩ : ∃ W0, W0 = (w.alloc (.cells #[.slice a V.length c, .slice a2 M.length c2] 25)).alloc (.cells #[.slice a' V.length c', .slice a2' M.length c2'] 25) := ⟨_, rfl⟩
  have B : Below w.heap.size w W0 := by subst hW0; exact Rw.next (below_alloc1 _ _) (below_alloc1 _ _)
  have k0 : W0.heap[w.heap.size]? = some (.cells #[.slice a V.length c, .slice a2 M.length c2] 25 (0, 0)) := by subst hW0; rw [at_old (by simp), at_new rfl]
  have k1 : W0.heap[w.heap.size + 1]? = some (.cells #[.slice a' V.length c', .slice a2' M.length c2'] 25 (0, 0)) := by subst hW0; rw [at_new (by simp)]
  have h1 := hV.below B
  have h2 := hM.below B
  have h3 := hV'.below B
  have h4 := hM'.below B
  clear hV hM hV' hM'
  have tok1 : True := trivial
  go_enter Try.func90, Try.ntmps90
  go_wp2_with (first
    | (go_at_call 174; clear tok1; rw [← hW0]; refine (eqIntS_any _ _ _ _ _ _ _ _ V V _ h1 h3).mono ?_; rw [decide_eq_true rfl]; rintro e wa ⟨rfl, hb⟩; replace k0 := (hb.block _ (Array.getElem?_eq_some_iff.1 k0).1).trans k0; replace k1 := (hb.block _ (Array.getElem?_eq_some_iff.1 k1).1).trans k1; obtain ⟨p0, p1⟩ := two k0; obtain ⟨r0, r1⟩ := two k1; replace h2 := h2.below hb; replace h4 := h4.below hb; replace B := Rw.next B hb; clear hb h1 h3; have tok2 : True := trivial)
    | (go_at_call 174; clear tok2; refine (eqIntS_any _ _ _ _ _ _ _ _ M M _ h2 h4).mono ?_; rw [decide_eq_true rfl]; rintro e wb ⟨rfl, hb⟩; replace B := Rw.next B hb; clear hb))
  go_ret
  exact ⟨rfl, B⟩

set_option maxHeartbeats 1000000 in
theorem markM_any (k0 : Int) (h0 : 0 ≤ k0) (hk : k0 ≤ 100000000000) (a a' : Option Addr) (g c g' c' : Nat) (V M : List Int) (w : World) (hV : Wt w a g V) (hM : Wt w a' g' M) (hne : g ≠ g') :
    Calls Try.prog 93 #[.agg #[.slice a V.length c, .slice a' M.length c'], .int .i64 k0] w fun e w' => e = .returned (.int .i64 (k0 + (V.length : Int) + (M.length : Int))) ∧ Kept2 g V.length g' M.length w w' ∧ Wt w' a g (marksF k0 V.length) ∧ Wt w' a' g' (marksF (k0 + (V.length : Int)) M.length) := by
  obtain ⟨W0, hW0⟩ : ∃ W0, W0 = w.alloc (.cells #[.slice a V.length c, .slice a' M.length c'] 25) := ⟨_, rfl⟩
  have B : Below w.heap.size w W0 := by subst hW0; exact below_alloc1 _ _
  have q0 : W0.heap[w.heap.size]? = some (.cells #[.slice a V.length c, .slice a' M.length c'] 25 (0, 0)) := by subst hW0; exact at_new rfl
  have lt0 := (Array.getElem?_eq_some_iff.1 q0).1
  have hlt := wt_lt hV
  have h1 := hV.below B
  have h2 := hM.below B
  have sz1 := hV.size
  have sz2 := hM.size
  clear hV hM
  have tok1 : True := trivial
  go_enter Try.func93, Try.ntmps93
  go_wp2_with (go_at_call 176; clear tok1; rw [← hW0]; refine (markF_any k0 h0 (by omega) _ _ _ _ _ h1).mono ?_; rintro e wa ⟨rfl, hk1, hw1⟩; replace q0 := (hk1.block _ lt0 (by omega)).trans q0; obtain ⟨p0, p1⟩ := two q0)
  have h3 : Wt wa a' g' M := wt_onlyN hk1.only (fun e => hk1.below e) h2 (by omega)
  have lt1 : w.heap.size < wa.heap.size := Nat.lt_of_lt_of_le lt0 hk1.size
  clear hW0 h1 h2
  go_wp2_with (go_at_call 176; refine (markF_any (k0 + (V.length : Int)) (by omega) (by omega) _ _ _ _ _ h3).mono ?_; rintro e wb ⟨rfl, hk2, hw2⟩)
  go_ret
  refine ⟨rfl, (kept2 hk1 hk2).pre B, ?_, hw2⟩
  exact wt_onlyN hk2.only (fun e => hk2.below e) hw1 (by rw [marksF_len]; omega)

theorem array2 {α : Type} {cs : Array α} (h : cs.size = 2) : ∃ c0 c1, cs = #[c0, c1] := by
  obtain ⟨l⟩ := cs
  match l, h with
  | [c0, c1], _ => exact ⟨c0, c1, rfl⟩

set_option maxRecDepth 8000 in
theorem open_match {H : Type} {enc : TypeId × Value → H} {W : World} {r : Reach} {b0 : Nat} {v : Value} {d : DataW H} {p : List MemPlace}
    (hv : Value.okWide Try.prog W r b0 45 v) (h : DataW.Trod enc Try.prog W 0 (fun _ => true) true 45 v d p) :
    ∃ (a : Option Addr) (len cap : Nat) (zs : List Int) (a' : Option Addr) (len' cap' : Nat) (zs' : List Int), v = .agg #[.slice a len cap, .slice a' len' cap'] ∧ Rw.IsRow .i64 W a len cap zs ∧ Rw.IsRow .i64 W a' len' cap' zs' := by
  obtain ⟨cs, rfl, hsz⟩ := okWide_struct Try.underlying45 hv
  have hC : Try.prog.cellsOf 45 = 2 := by kernel_rfl
  have h23 : Try.prog.cellsOf 23 = 1 := by kernel_rfl
  obtain ⟨c0, c1, rfl⟩ := array2 (hsz.trans hC)
  obtain ⟨fuel, hf⟩ := h
  obtain ⟨xs, n, _, _, _, hlen, hx⟩ := DataW.trod_struct Try.underlying45 hf
  have hlen2 : xs.length = 2 := by simpa using hlen
  obtain ⟨y0, e0⟩ := Pf.some_of_len hlen2 (i := 0) (by omega)
  obtain ⟨y1, e1⟩ := Pf.some_of_len hlen2 (i := 1) (by omega)
  have t0 := (hx 0 _ rfl).trans e0
  have t1 := (hx 1 _ rfl).trans e1
  simp [Value.cells, h23] at t0 t1
  rcases open_ints Try.underlying23 Try.underlying3 (by kernel_rfl) t0 with ⟨hcs, _⟩ | ⟨x, l, c, zs, hcs, _, hl, hm, hz, _, hcell, hwz⟩
  · simp at hcs
    subst hcs
    rcases open_ints Try.underlying23 Try.underlying3 (by kernel_rfl) t1 with ⟨hcs, _⟩ | ⟨x', l', c', zs', hcs, _, hl', hm', hz', _, hcell', hwz'⟩
    · simp at hcs
      subst hcs
      exact ⟨_, _, _, [], _, _, _, [], rfl, .inl ⟨rfl, rfl, rfl, rfl⟩, .inl ⟨rfl, rfl, rfl, rfl⟩⟩
    · simp at hcs
      subst hcs
      exact ⟨_, _, _, [], _, _, _, zs', rfl, .inl ⟨rfl, rfl, rfl, rfl⟩, .inr ⟨_, rfl, hl', hm', by simpa using hz', hcell', hwz'⟩⟩
  · simp at hcs
    subst hcs
    rcases open_ints Try.underlying23 Try.underlying3 (by kernel_rfl) t1 with ⟨hcs, _⟩ | ⟨x', l', c', zs', hcs, _, hl', hm', hz', _, hcell', hwz'⟩
    · simp at hcs
      subst hcs
      exact ⟨_, _, _, zs, _, _, _, [], rfl, .inr ⟨_, rfl, hl, hm, by simpa using hz, hcell, hwz⟩, .inl ⟨rfl, rfl, rfl, rfl⟩⟩
    · simp at hcs
      subst hcs
      exact ⟨_, _, _, zs, _, _, _, zs', rfl, .inr ⟨_, rfl, hl, hm, by simpa using hz, hcell, hwz⟩, .inr ⟨_, rfl, hl', hm', by simpa using hz', hcell', hwz'⟩⟩

theorem getD_in {l : List Int} {k : Nat} (h : k < l.length) : l.getD k 0 = l[k] := by simp [List.getD, h]
/-- What came in, read as a list whose numbers have 64 bits. -/
theorem rd_wide {w : World} {a : Option Addr} {len cap : Nat} {zs : List Int} (h : Rw.IsRow .i64 w a len cap zs) (hlen : len ≤ 4194304) :
    ∃ b off l, l.length = len ∧ Rd w a b off l ∧ Wide l := by
  rcases h with ⟨rfl, rfl, rfl, rfl⟩ | ⟨x, rfl, hl, hm, hz, hcell, hwz⟩
  · exact ⟨0, 0, [], rfl, ⟨fun h => by simp at h, fun i h => by simp at h, by simp⟩, fun k => by simp [I64]⟩
  · by_cases h0 : len = 0
    · subst h0
      exact ⟨0, 0, [], rfl, ⟨fun h => by simp at h, fun i h => by simp at h, by simp⟩, fun k => by simp [I64]⟩
    · obtain ⟨b, off, spot⟩ := x
      have hc := hcell 0 (by omega)
      have hspot : spot = none := by simpa [Addr.add] using World.cell?_spot hc
      subst hspot
      have hlt : (zs.take len).length = len := by simp; omega
      refine ⟨b, off, zs.take len, hlt, ⟨fun _ => rfl, fun i hi => ?_, by omega⟩, fun k => ?_⟩
      · have := hcell i (by omega)
        have e : (zs.take len).getD i 0 = zs.getD i 0 := by
          rw [hlt] at hi
          simp [List.getD, hi]
        rw [e]
        by_cases ei : i = 0
        · subst ei
          simpa [Addr.add] using this
        · simpa [Addr.add, ei] using this
      · by_cases hk : k < (zs.take len).length
        · have e : (zs.take len).getD k 0 = (zs.take len)[k] := getD_in hk
          rw [e]
          have := hwz _ (List.mem_of_mem_take (List.getElem_mem hk))
          have b64 := bounds_i64 this
          unfold I64
          omega
        · have e : (zs.take len).getD k 0 = 0 := by simp [List.getD, List.getElem?_eq_none (Nat.le_of_not_lt hk)]
          rw [e]
          unfold I64
          omega

end Go.Proofs.Ytcbhpmgjmpbpmaa.Lm
namespace Go.Proofs.Ytcbhpmgjmpbpmaa.Rg
set_option maxRecDepth 8000
open Go Go.RowKit
open Num Pl Hr Hh Pm Po Pq

theorem call1 {md : Region.Mode} {ops : Array Oper} {Q : Exit → Act → World → Prop} {S : World → Prop} {fuel : Nat} {listed : Array Bool} {a : Act} {w : World} {i : Nat} {o : Oper} {rs : List Nat} (hi : ops[i]? = some o) (hw : Region.wanted o (yielded ops a.tmps) = true)
    (f : FuncId) (x : Operand) (t : TypeId) (hop : o.op = Op.call { callee := Callee.value (Operand.func f), args := #[x], argTypes := #[t] }) (d : Tmp) (hd : o.dst = some d)
    (u : Value) (hx : a.eval x = u) (he : ∀ w, (callFunc f #[u]).run Try.prog w = .ok (.enter f #[u]) w) {R : Ending → World → Prop} (hc : Calls Try.prog f #[u] w R)
    (hk : ∀ e w', R e w' → ∃ v, e = .returned v ∧ S w' ∧ (S w' → wpAnyH Try.prog md ops Q S fuel (listed.setIfInBounds i true) (a.put (some d) v) w'))
    (hs : AllReadyH Try.prog md ops Q S fuel listed a w rs) : AllReadyH Try.prog md ops Q S fuel listed a w (i :: rs) :=
  AllReadyH.cons hi (fun K hK => by
    rw [if_pos hw]
    unfold Oper.wp
    have hf : a.eval (.func f) = .func (.func f) #[] #[] := rfl
    simp [execOp, hop, resolve, invoke, hx, hf, Deferred.ofValue, he w]
    refine hc.mono ?_
    intro e w' hr
    obtain ⟨v, rfl, h1, h2⟩ := hk e w' hr
    exact hK.out _ _ h1 (fun hs' => by rw [hd]; exact h2 hs')) hs

theorem call2 {md : Region.Mode} {ops : Array Oper} {Q : Exit → Act → World → Prop} {S : World → Prop} {fuel : Nat} {listed : Array Bool} {a : Act} {w : World} {i : Nat} {o : Oper} {rs : List Nat} (hi : ops[i]? = some o) (hw : Region.wanted o (yielded ops a.tmps) = true)
    (f : FuncId) (x y : Operand) (t t' : TypeId) (hop : o.op = Op.call { callee := Callee.value (Operand.func f), args := #[x, y], argTypes := #[t, t'] }) (d : Tmp) (hd : o.dst = some d)
    (u u' : Value) (hx : a.eval x = u) (hy : a.eval y = u') (he : ∀ w, (callFunc f #[u, u']).run Try.prog w = .ok (.enter f #[u, u']) w) {R : Ending → World → Prop} (hc : Calls Try.prog f #[u, u'] w R)
    (hk : ∀ e w', R e w' → ∃ v, e = .returned v ∧ S w' ∧ (S w' → wpAnyH Try.prog md ops Q S fuel (listed.setIfInBounds i true) (a.put (some d) v) w'))
    (hs : AllReadyH Try.prog md ops Q S fuel listed a w rs) : AllReadyH Try.prog md ops Q S fuel listed a w (i :: rs) :=
  AllReadyH.cons hi (fun K hK => by
    rw [if_pos hw]
    unfold Oper.wp
    have hf : a.eval (.func f) = .func (.func f) #[] #[] := rfl
    simp [execOp, hop, resolve, invoke, hx, hy, hf, Deferred.ofValue, he w]
    refine hc.mono ?_
    intro e w' hr
    obtain ⟨v, rfl, h1, h2⟩ := hk e w' hr
    exact hK.out _ _ h1 (fun hs' => by rw [hd]; exact h2 hs')) hs

theorem szM_at (a a' : Option Addr) (n c n' c' L L' : Nat) (w : World) (h : n + n' + L' = L) (hL : L ≤ 1048576) :
    Calls Try.prog 82 #[.agg #[.slice a n c, .slice a' n' c'], .int .i64 L] w fun e w' => e = .returned (.int .i64 (L' : Int)) ∧ Below w.heap.size w w' := by
  have := Lm.szM_small a a' n c n' c' L w (by omega) hL
  have e : L - n - n' = L' := by omega
  rw [e] at this
  exact this
theorem szH_at (a : Option Addr) (n c L L' : Nat) (w : World) (h : n + L' = L) (hL : L ≤ 1048576) :
    Calls Try.prog 84 #[.agg #[.slice a n c], .int .i64 L] w fun e w' => e = .returned (.int .i64 (L' : Int)) ∧ Below w.heap.size w w' := by
  have := Lm.szH_small a n c L w (by omega) hL
  have e : L - n = L' := by omega
  rw [e] at this
  exact this

/-- What a call over matches and heads does, wherever they lie. -/
def CM (f : FuncId) (V M : List Int) (R : World → Ending → World → Prop) : Prop :=
  ∀ (a a' : Option Addr) (b o c b' o' c' : Nat) (w : World), Rd w a b o V → Rd w a' b' o' M → Calls Try.prog f #[.agg #[.slice a V.length c, .slice a' M.length c']] w (R w)
def CH (f : FuncId) (V : List Int) (R : World → Ending → World → Prop) : Prop :=
  ∀ (a : Option Addr) (b o c : Nat) (w : World), Rd w a b o V → Calls Try.prog f #[.agg #[.slice a V.length c]] w (R w)
def CMM (f : FuncId) (V M V' M' : List Int) (R : World → Ending → World → Prop) : Prop :=
  ∀ (a a' : Option Addr) (b o c b' o' c' : Nat) (p p' : Option Addr) (q r s q' r' s' : Nat) (w : World), Rd w a b o V → Rd w a' b' o' M → Rd w p q r V' → Rd w p' q' r' M' →
    Calls Try.prog f #[.agg #[.slice a V.length c, .slice a' M.length c'], .agg #[.slice p V'.length s, .slice p' M'.length s']] w (R w)
def CMH (f : FuncId) (V M H : List Int) (R : World → Ending → World → Prop) : Prop :=
  ∀ (a a' : Option Addr) (b o c b' o' c' : Nat) (p : Option Addr) (q r s : Nat) (w : World), Rd w a b o V → Rd w a' b' o' M → Rd w p q r H →
    Calls Try.prog f #[.agg #[.slice a V.length c, .slice a' M.length c'], .agg #[.slice p H.length s]] w (R w)
/-- A truth value, a number. -/
def Bo (R : Bool) (w : World) (e : Ending) (w' : World) : Prop := e = .returned (.bool R) ∧ Below w.heap.size w w'
def Nu (R : Int) (w : World) (e : Ending) (w' : World) : Prop := e = .returned (.int .i64 R) ∧ Below w.heap.size w w'

end Go.Proofs.Ytcbhpmgjmpbpmaa.Rg
namespace Go.Proofs.Ytcbhpmgjmpbpmaa.Yb
set_option maxRecDepth 8000
open Go Go.ChangeShapes Go.WideShapes Go.RowKit
open Num Pl

/-- An action: its kind, A and B. -/
abbrev A3 := Int × Int × Int
def z3 : A3 := (0, 0, 0)

/-- The three cells of element i of the row that begins at ⟨b, off⟩ hold the action x. -/
def At3 (w : World) (b off i : Nat) (x : A3) : Prop :=
  w.cell? ⟨b, off + i * 3, none⟩ = some (.int .i64 x.1) ∧ w.cell? ⟨b, off + i * 3 + 1, none⟩ = some (.int .i64 x.2.1) ∧ w.cell? ⟨b, off + i * 3 + 2, none⟩ = some (.int .i64 x.2.2)

theorem At3.lt {w : World} {b off i : Nat} {x : A3} (h : At3 w b off i x) : b < w.heap.size := World.block_lt_of_cell? _ _ h.1
theorem At3.below {w w' : World} {b off i : Nat} {x : A3} (h : At3 w b off i x) (hb : Below w.heap.size w w') : At3 w' b off i x :=
  ⟨(hb.cell (World.block_lt_of_cell? _ _ h.1)).trans h.1, (hb.cell (World.block_lt_of_cell? _ _ h.2.1)).trans h.2.1, (hb.cell (World.block_lt_of_cell? _ _ h.2.2)).trans h.2.2⟩

theorem At3.of {w w' : World} {b off i : Nat} {x : A3} {n : Nat} (h : At3 w b off i x) (hb : Below n w w') (hn : b < n := by omega) : At3 w' b off i x := by
  refine ⟨(hb.cell ?_).trans h.1, (hb.cell ?_).trans h.2.1, (hb.cell ?_).trans h.2.2⟩ <;> exact hn
/-- The slice at 'a' (its head at block b, offset off, where it is not empty) reads as the actions l. -/
structure Rd (w : World) (a : Option Addr) (b off : Nat) (l : List A3) : Prop where
  head : 0 < l.length → a = some ⟨b, off, none⟩
  cell : ∀ i, i < l.length → At3 w b off i (l.getD i z3)
  size : l.length ≤ 4194304

theorem Rd.below {w w' : World} {a : Option Addr} {b off : Nat} {l : List A3} (h : Rd w a b off l) (hb : Below w.heap.size w w') : Rd w' a b off l :=
  ⟨h.head, fun i hi => (h.cell i hi).below hb, h.size⟩
theorem rd_lt {w : World} {a : Option Addr} {b off : Nat} {l : List A3} (h : Rd w a b off l) : l.length = 0 ∨ b < w.heap.size := by
  rcases Nat.eq_zero_or_pos l.length with h0 | h0
  · exact .inl h0
  · exact .inr (h.cell 0 h0).lt

/-- What is told of a slice of actions that came in. -/
def IsRow (w : World) (a : Option Addr) (len : Nat) (l : List A3) : Prop :=
  len = 0 ∨ ∃ b off, a = some ⟨b, off, none⟩ ∧ len ≤ maxLen ∧ l.length = len ∧ ∀ i, i < len → At3 w b off i (l.getD i z3)

theorem isRow_max {W : World} {a : Option Addr} {len : Nat} {l : List A3} (h : IsRow W a len l) : len ≤ maxLen := by
  rcases h with rfl | ⟨_, _, _, h, _⟩
  · exact Nat.zero_le _
  · exact h
theorem rd_of_isRow {w : World} {a : Option Addr} {len : Nat} {l0 : List A3} (h : IsRow w a len l0) (hlen : len ≤ 4194304) :
    ∃ b off l, l.length = len ∧ Rd w a b off l := by
  rcases h with rfl | ⟨b, off, rfl, hm, hl, hc⟩
  · exact ⟨0, 0, [], rfl, ⟨fun h => by simp at h, fun i h => by simp at h, by simp⟩⟩
  · exact ⟨b, off, l0, hl, ⟨fun _ => rfl, fun i hi => hc i (by omega), by omega⟩⟩

theorem add_eq (b off n : Nat) : (⟨b, off, none⟩ : Addr).add n = ⟨b, off + n, none⟩ := by
  unfold Addr.add
  split
  · next h => simp_all
  · rfl

set_option maxHeartbeats 1000000 in
theorem open_acts {H : Type} {enc : TypeId × Value → H} {W : World} {a : Option Addr} {len cap : Nat} {d : DataW H} {p : List MemPlace}
    (h : DataW.Trod enc Try.prog W 0 (fun _ => true) true 46 (.slice a len cap) d p) :
    ∃ l : List A3, IsRow W a len l := by
  have hC : Try.prog.cellsOf 189 = 3 := by kernel_rfl
  have c3 : Try.prog.cellsOf 3 = 1 := by kernel_rfl
  obtain ⟨fuel, hf⟩ := h
  rcases Deep.open_slice Try.underlying46 hf with ⟨hcs, _⟩ | ⟨x, l, c, m, n, D, Pl, hcs, hb, hl, hm, hmm, _, hx⟩
  · simp [Value.cells] at hcs
    obtain ⟨rfl, rfl, rfl⟩ := hcs
    exact ⟨[], .inl rfl⟩
  · simp [Value.cells] at hcs
    obtain ⟨rfl, rfl, rfl⟩ := hcs
    have hlm : len ≤ m := by rw [hmm]; split <;> omega
    have each : ∀ i, i < len → ∃ q : A3, W.cell? (x.add (i * 3)) = some (.int .i64 q.1) ∧ W.cell? (x.add (i * 3 + 1)) = some (.int .i64 q.2.1) ∧ W.cell? (x.add (i * 3 + 2)) = some (.int .i64 q.2.2) := by
      intro i hi
      obtain ⟨cs', h1, h2⟩ := hx i (by omega)
      rw [hC] at h1
      obtain ⟨_, hlen, hcell⟩ := World.cells?_some h1
      obtain ⟨xs, k, hk, hxy, _, hxl, hf⟩ := DataW.trod_struct Try.underlying189 h2
      match xs, hxl, cs', hlen with
      | [y0, y1, y2], _, [v0, v1, v2], _ =>
        have g0 := hf 0 _ rfl
        have g1 := hf 1 _ rfl
        have g2 := hf 2 _ rfl
        simp [c3] at g0 g1 g2
        have e0 := hcell 0 (by omega)
        have e1 := hcell 1 (by omega)
        have e2 := hcell 2 (by omega)
        rw [Deep.add_add] at e0 e1 e2
        obtain ⟨q0, r0, _⟩ := DataW.trod_int Try.underlying3 g0
        obtain ⟨q1, r1, _⟩ := DataW.trod_int Try.underlying3 g1
        obtain ⟨q2, r2, _⟩ := DataW.trod_int Try.underlying3 g2
        simp at r0 r1 r2
        subst r0 r1 r2
        exact ⟨(q0, q1, q2), by simpa using e0, by simpa using e1, by simpa using e2⟩
    obtain ⟨q, hq⟩ := Deep.choose_lt each
    by_cases h0 : len = 0
    · exact ⟨[], .inl h0⟩
    · obtain ⟨b, off, spot⟩ := x
      have hc := (hq 0 (by omega)).1
      have hspot : spot = none := by simpa [Addr.add] using World.cell?_spot hc
      subst hspot
      refine ⟨(List.range len).map q, .inr ⟨b, off, rfl, by omega, by simp, fun i hi => ?_⟩⟩
      have := hq i hi
      rw [add_eq, add_eq, add_eq] at this
      have e : ((List.range len).map q).getD i z3 = q i := by simp [List.getD, hi]
      rw [e]
      exact ⟨this.1, by rw [Nat.add_assoc]; exact this.2.1, by rw [Nat.add_assoc]; exact this.2.2⟩

theorem sz_small (a : Option Addr) (n c L : Nat) (w : World) (h : n ≤ L) (hL : L ≤ 1048576) :
    Calls Try.prog 83 #[.slice a n c, .int .i64 L] w fun e w' => e = .returned (.int .i64 ((L : Int) - (n : Int))) ∧ w' = w := by
  have h0 : ¬ ((L : Int) - (n : Int) < 0) := by omega
  go_enter Try.func83, Try.ntmps83
  go_wp2
  go_ret
  exact ⟨rfl, rfl⟩
theorem sz_big (a : Option Addr) (n c L : Nat) (w : World) (h : L < n) (hL : L ≤ 1048576) (hm : n ≤ maxLen) :
    Calls Try.prog 83 #[.slice a n c, .int .i64 L] w fun e w' => e = .returned (.int .i64 (-1)) ∧ w' = w := by
  unfold maxLen at hm
  have h0 : (L : Int) - (n : Int) < 0 := by omega
  go_enter Try.func83, Try.ntmps83
  go_wp2
  go_ret
  exact ⟨rfl, rfl⟩

/-- The integer at cell j of the actions l. -/
def flat (l : List A3) (j : Nat) : Int := if j % 3 = 0 then (l.getD (j / 3) z3).1 else if j % 3 = 1 then (l.getD (j / 3) z3).2.1 else (l.getD (j / 3) z3).2.2
theorem flat0 (l : List A3) (i : Nat) : flat l (i * 3) = (l.getD i z3).1 := by
  have e1 : i * 3 % 3 = 0 := by omega
  have e2 : i * 3 / 3 = i := by omega
  unfold flat; rw [if_pos e1, e2]
theorem flat1 (l : List A3) (i : Nat) : flat l (i * 3 + 1) = (l.getD i z3).2.1 := by
  have e1 : (i * 3 + 1) % 3 = 1 := by omega
  have e2 : (i * 3 + 1) / 3 = i := by omega
  unfold flat; rw [if_neg (by omega), if_pos e1, e2]
theorem flat2 (l : List A3) (i : Nat) : flat l (i * 3 + 2) = (l.getD i z3).2.2 := by
  have e1 : (i * 3 + 2) % 3 = 2 := by omega
  have e2 : (i * 3 + 2) / 3 = i := by omega
  unfold flat; rw [if_neg (by omega), if_neg (by omega), e2]

/-- The block g is a row of the actions l, of the call's own. -/
structure Mine (w : World) (g : Nat) (l : List A3) : Prop where
  row : w.rowIs g 133 (l.length * 3) (fun j => .int .i64 (flat l j))
  size : l.length ≤ 4194304

theorem Mine.rd {w : World} {g : Nat} {l : List A3} (h : Mine w g l) : Rd w (some ⟨g, 0, none⟩) g 0 l := by
  refine ⟨fun _ => rfl, fun i hi => ⟨?_, ?_, ?_⟩, h.size⟩
  · rw [← flat0, Nat.zero_add]; exact h.row.cell (by omega)
  · rw [← flat1, Nat.zero_add]; exact h.row.cell (by omega)
  · rw [← flat2, Nat.zero_add]; exact h.row.cell (by omega)
theorem Mine.below {w w' : World} {g : Nat} {l : List A3} (h : Mine w g l) (hb : Below w.heap.size w w') : Mine w' g l :=
  ⟨h.row.of_block (hb.block g h.row.lt), h.size⟩

/-- A copy under way: the first k actions are there. -/
def part (l : List A3) (k : Nat) : Nat → Value := fun j => .int .i64 (if j < k * 3 then flat l j else 0)
theorem part_step {w : World} {g n : Nat} {l : List A3} {k : Nat} (h : w.rowIs g 133 n (part l k)) :
    (((w.setCell ⟨g, k * 3, none⟩ (.int .i64 (l.getD k z3).1)).setCell ⟨g, k * 3 + 1, none⟩ (.int .i64 (l.getD k z3).2.1)).setCell ⟨g, k * 3 + 2, none⟩ (.int .i64 (l.getD k z3).2.2)).rowIs g 133 n (part l (k + 1)) := by
  refine (((h.set _ _).set _ _).set _ _).congr fun j hj => ?_
  unfold part
  by_cases e2 : j = k * 3 + 2
  · subst e2; rw [if_pos rfl, if_pos (by omega), flat2]
  · rw [if_neg e2]
    by_cases e1 : j = k * 3 + 1
    · subst e1; rw [if_pos rfl, if_pos (by omega), flat1]
    · rw [if_neg e1]
      by_cases e0 : j = k * 3
      · subst e0; rw [if_pos rfl, if_pos (by omega), flat0]
      · rw [if_neg e0]
        have : (j < (k + 1) * 3) = (j < k * 3) := by rw [eq_iff_iff]; omega
        simp [this]

theorem toAct_any (x y z : Int) (w : World) :
    Calls Try.prog 170 #[.agg #[.int .i64 x, .int .i64 y, .int .i64 z]] w fun e w' => e = .returned (.agg #[.int .i64 x, .int .i64 y, .int .i64 z]) ∧ Below w.heap.size w w' := by
  go_enter Try.func170, Try.ntmps170
  go_wp2
  exact bodyPost_ret (v := .agg #[.int .i64 x, .int .i64 y, .int .i64 z]) (by simp [results, Try.results170, go_sem]) rfl ⟨rfl, Rw.next (Rw.next (below_alloc1 _ _) (below_alloc1 _ _)) (below_alloc1 _ _)⟩

theorem eqAct_any (x y : A3) (w : World) :
    Calls Try.prog 175 #[.agg #[.int .i64 x.1, .int .i64 x.2.1, .int .i64 x.2.2], .agg #[.int .i64 y.1, .int .i64 y.2.1, .int .i64 y.2.2]] w fun e w' => e = .returned (.bool (decide (x = y))) ∧ Below w.heap.size w w' := by
  obtain ⟨x0, x1, x2⟩ := x
  obtain ⟨y0, y1, y2⟩ := y
  have B := Rw.next (below_alloc1 w (.cells #[.int .i64 x0, .int .i64 x1, .int .i64 x2] 133)) (below_alloc1 _ (.cells #[.int .i64 y0, .int .i64 y1, .int .i64 y2] 133))
  by_cases h0 : x0 = y0
  · subst h0
    by_cases h1 : x1 = y1
    · subst h1
      by_cases h2 : x2 = y2
      · subst h2
        go_enter Try.func175, Try.ntmps175
        go_wp2
        go_ret
        exact ⟨ret_bool (by simp), B⟩
      · have hn : (x2 != y2) = true := by simpa using h2
        go_enter Try.func175, Try.ntmps175
        go_wp2
        go_ret
        exact ⟨ret_bool (by simp [h2]), B⟩
    · have hn : (x1 != y1) = true := by simpa using h1
      go_enter Try.func175, Try.ntmps175
      go_wp2
      go_ret
      exact ⟨ret_bool (by simp [h1]), B⟩
  · have hn : (x0 != y0) = true := by simpa using h0
    go_enter Try.func175, Try.ntmps175
    go_wp2
    go_ret
    exact ⟨ret_bool (by simp [h0]), B⟩

theorem info76 : (Try.prog.info? 133).map (fun i => (i.zero, i.size, i.bytes)) = some (some (.agg #[.int .i64 0, .int .i64 0, .int .i64 0]), 3, 24) := by kernel_rfl
theorem make3 (n : Nat) (hn : n ≤ 4194304) (w : World) :
    (Instr.makeSlice 26 (.int .i64 n) (.int .i64 n)).run Try.prog w = .ok (.slice (some ⟨w.heap.size, 0, none⟩) n n) (w.alloc (.cells (madeCells #[.int .i64 0, .int .i64 0, .int .i64 0] (n * 3)) 133)) := by
  obtain ⟨i, hi, hzz⟩ := Option.map_eq_some_iff.1 info76
  simp only [Prod.mk.injEq] at hzz
  obtain ⟨hz, hs, hb⟩ := hzz
  have hr := run_make (P := Try.prog) w 26 133 i _ Try.underlying26 hi hz .i64 .i64 n n (by omega) (Int.le_refl _) (by rw [hb]; omega) (by omega)
  simp only [Int.toNat_natCast, hs, Value.cells] at hr
  exact hr
theorem made3 (w : World) (n : Nat) (l : List A3) : (w.alloc (.cells (madeCells #[.int .i64 0, .int .i64 0, .int .i64 0] (n * 3)) 133)).rowIs w.heap.size 133 (n * 3) (part l 0) :=
  ⟨_, at_new rfl, size_madeCells _ _, fun i hi => by
    have e : i % 3 = 0 ∨ i % 3 = 1 ∨ i % 3 = 2 := by omega
    rcases e with e | e | e <;> simp [madeCells, hi, e, part]⟩

set_option maxHeartbeats 1000000 in
theorem toActS_any (a : Option Addr) (b off cap : Nat) (l : List A3) (w : World) (h : Rd w a b off l) :
    Calls Try.prog 86 #[.slice a l.length cap] w fun e w' => e = .returned (.slice (some ⟨w.heap.size, 0, none⟩) l.length l.length) ∧ Below w.heap.size w w' ∧ Mine w' w.heap.size l := by
  obtain ⟨hh, hc, hs⟩ := h
  obtain ⟨n, hn⟩ : ∃ n, n = l.length := ⟨_, rfl⟩
  have hmk := make3 n (by omega)
  rw [← hn] at hh hc hs ⊢
  have HN : Hid (n = l.length) := hn
  clear hn
  go_enter Try.func86, Try.ntmps86
  go_wp2
  clear hmk
  go_loopw [4] (fun i wr => ∃ k : Nat, k ≤ n ∧ i = .int .i64 k ∧ Below w.heap.size w wr ∧ wr.rowIs w.heap.size 133 (n * 3) (part l k)) (fun i _ => n - (intOf i).toNat)
  case atStart => exact ⟨0, Nat.zero_le _, rfl, (Below.refl _ _).alloc (Nat.le_refl _) _, made3 w n l⟩
  case round =>
    obtain ⟨k, hk, rfl, hbel, hrow⟩ := hrel
    by_cases hlt : k < n
    · obtain rfl := hh (by omega)
      have hkz : (k : Int) < (n : Int) := by omega
      obtain ⟨c0, c1, c2⟩ := (hc k hlt).of hbel (hc k hlt).lt
      have hlw := hrow.lt
      go_wp2_with (go_at_call 170; refine (toAct_any _ _ _ _).mono ?_; rintro e w1 ⟨rfl, hb⟩; replace hrow := hrow.of_block (hb.block _ hlw); replace hbel := Rw.next hbel hb; have g0 := hrow.cell (i := k * 3) (by omega); have g1 := hrow.cell (i := k * 3 + 1) (by omega); have g2 := hrow.cell (i := k * 3 + 2) (by omega); have f0 := hrow.frozen (k * 3); have f1 := hrow.frozen (k * 3 + 1); have f2 := hrow.frozen (k * 3 + 2))
      go_roundw
      case rel => exact ⟨k + 1, by omega, by go_num, ((hbel.setCell (by simp) _).setCell (by simp) _).setCell (by simp) _, part_step hrow⟩
      case measure => simp [intOf]; omega
    · have he : k = n := by omega
      subst he
      go_wp2
      go_ret
      have := HN.out
      subst this
      exact ⟨rfl, hbel, hrow.congr (fun i hi => by simp [part, hi]), hs⟩

theorem ext3 {l m : List A3} (hl : l.length = m.length) (h : ∀ i, i < l.length → l.getD i z3 = m.getD i z3) : l = m := by
  refine List.ext_getElem hl fun i h1 h2 => ?_
  have := h i h1
  simpa [List.getD, h1, h2] using this
theorem ne3 {l m : List A3} {k : Nat} (h : ¬ l.getD k z3 = m.getD k z3) : decide (l = m) = false := by
  simp; intro e; subst e; exact h rfl

set_option maxHeartbeats 1000000 in
theorem eqActS_any (a a' : Option Addr) (b off cap b' off' cap' : Nat) (l m : List A3) (w : World) (h : Rd w a b off l) (h' : Rd w a' b' off' m) :
    Calls Try.prog 91 #[.slice a l.length cap, .slice a' m.length cap'] w fun e w' => e = .returned (.bool (decide (l = m))) ∧ Below w.heap.size w w' := by
  obtain ⟨hh, hc, hs⟩ := h
  obtain ⟨hh', hc', hs'⟩ := h'
  by_cases hl : l.length = m.length
  · obtain ⟨n, hn⟩ : ∃ n, n = l.length := ⟨_, rfl⟩
    rw [← hl] at hh' hc' ⊢
    rw [← hn] at hh hc hs hh' hc' ⊢
    have HN : Hid (n = l.length) := hn
    have HL : Hid (l.length = m.length) := hl
    clear hn hl hs'
    go_enter Try.func91, Try.ntmps91
    go_wp2
    go_loopw [5] (fun i wr => ∃ k : Nat, k ≤ n ∧ i = .int .i64 k ∧ Below w.heap.size w wr ∧ ∀ i, i < k → l.getD i z3 = m.getD i z3) (fun i _ => n - (intOf i).toNat)
    case atStart => exact ⟨0, Nat.zero_le _, rfl, Below.refl _ _, fun i hi => by omega⟩
    case round =>
      obtain ⟨k, hk, rfl, hbel, hsame⟩ := hrel
      have HSA : Hid (∀ i, i < k → l.getD i z3 = m.getD i z3) := hsame
      clear hsame
      by_cases hlt : k < n
      · obtain rfl := hh (by omega)
        obtain rfl := hh' (by omega)
        have hkz : (k : Int) < (n : Int) := by omega
        obtain ⟨c0, c1, c2⟩ := (hc k hlt).of hbel (hc k hlt).lt
        obtain ⟨d0, d1, d2⟩ := (hc' k hlt).of hbel (hc' k hlt).lt
        generalize e1 : l.getD k z3 = x at c0 c1 c2
        generalize e2 : m.getD k z3 = y at d0 d1 d2
        have H1 : Hid (l.getD k z3 = x) := e1
        have H2 : Hid (m.getD k z3 = y) := e2
        clear e1 e2 hc hc' hh hh'
        by_cases hxy : x = y
        · subst hxy
          go_wp2
          go_region_with (go_at_call 175; refine (eqAct_any _ _ _).mono ?_; rw [decide_eq_true rfl]; rintro e w1 ⟨rfl, hb⟩)
          all_goals go_wp2
          all_goals go_roundw
          all_goals first
            | exact ⟨k + 1, by omega, by go_num, Rw.next (by repeat (first | exact hbel | apply Below.drew)) hb, fun i hi => by
                by_cases e : i = k
                · subst e; exact H1.out.trans H2.out.symm
                · exact HSA.out i (by omega)⟩
            | (simp [intOf]; omega)
        · go_wp2
          go_region_with (go_at_call 175; refine (eqAct_any _ _ _).mono ?_; rw [decide_eq_false hxy]; rintro e w1 ⟨rfl, hb⟩)
          all_goals go_wp2
          all_goals go_ret
          all_goals exact ⟨Num.ret_bool (ne3 (k := k) (by rw [H1.out, H2.out]; exact hxy)).symm, Rw.next (by repeat (first | exact hbel | apply Below.drew)) hb⟩
      · have he : k = n := by omega
        subst he
        go_wp2
        go_ret
        have := HN.out
        subst this
        exact ⟨Num.ret_bool (by simpa using ext3 HL.out HSA.out), hbel⟩
  · have hne : ((l.length : Int) != (m.length : Int)) = true := by simp; omega
    go_enter Try.func91, Try.ntmps91
    go_wp2
    go_ret
    exact ⟨Num.ret_bool (by simp; intro e; subst e; exact hl rfl), Below.refl _ _⟩

end Go.Proofs.Ytcbhpmgjmpbpmaa.Yb
namespace Go.Proofs.Ytcbhpmgjmpbpmaa.Ea
set_option maxRecDepth 8000
open Go Go.ChangeShapes Go.WideShapes Go.RowKit
open Num Pl

/-- What an entry says: epoch, rank, the match's two lists, its actions, how often it was hit. -/
abbrev En := Int × Int × List Int × List Int × List Yb.A3 × Int

/-- An entry as it came in: its numbers and the heads of its slices. -/
structure Raw where
  ep : Int
  pr : Int
  aV : Option Addr
  nV : Nat
  cV : Nat
  aM : Option Addr
  nM : Nat
  cM : Nat
  aA : Option Addr
  nA : Nat
  cA : Nat
  h : Int
def Raw.vals (r : Raw) : Array Value := #[.int .i64 r.ep, .int .i64 r.pr, .slice r.aV r.nV r.cV, .slice r.aM r.nM r.cM, .slice r.aA r.nA r.cA, .int .i64 r.h]
def r0 : Raw := ⟨0, 0, none, 0, 0, none, 0, 0, none, 0, 0, 0⟩
def Raw.Is (w : World) (r : Raw) : Prop :=
  (∃ z, Rw.IsRow .i64 w r.aV r.nV r.cV z) ∧ (∃ z, Rw.IsRow .i64 w r.aM r.nM r.cM z) ∧ ∃ z, Yb.IsRow w r.aA r.nA z
def Raw.len (r : Raw) : Nat := r.nV + r.nM + r.nA
theorem Raw.Is.max {w : World} {r : Raw} (h : r.Is w) : r.nV ≤ maxLen ∧ r.nM ≤ maxLen ∧ r.nA ≤ maxLen := by
  obtain ⟨⟨_, h1⟩, ⟨_, h2⟩, ⟨_, h3⟩⟩ := h
  exact ⟨Hr.isRow_max h1, Hr.isRow_max h2, Yb.isRow_max h3⟩

/-- An entry that lies in memory: what it says, and where its slices lie. -/
structure Ent where
  ep : Int
  pr : Int
  V : List Int
  M : List Int
  A : List Yb.A3
  h : Int
  aV : Option Addr
  bV : Nat
  oV : Nat
  cV : Nat
  aM : Option Addr
  bM : Nat
  oM : Nat
  cM : Nat
  aA : Option Addr
  bA : Nat
  oA : Nat
  cA : Nat
def Ent.said (e : Ent) : En := (e.ep, e.pr, e.V, e.M, e.A, e.h)
def Ent.vals (e : Ent) : Array Value := #[.int .i64 e.ep, .int .i64 e.pr, .slice e.aV e.V.length e.cV, .slice e.aM e.M.length e.cM, .slice e.aA e.A.length e.cA, .int .i64 e.h]
def e0 : Ent := ⟨0, 0, [], [], [], 0, none, 0, 0, 0, none, 0, 0, 0, none, 0, 0, 0⟩
/-- The entry's slices read as it says, its numbers are the machine's. -/
structure Ent.Ok (w : World) (e : Ent) : Prop where
  rV : Hr.Rd w e.aV e.bV e.oV e.V
  rM : Hr.Rd w e.aM e.bM e.oM e.M
  rA : Yb.Rd w e.aA e.bA e.oA e.A
  wV : Po.Wide e.V
  wM : Po.Wide e.M
theorem Ent.Ok.below {w w' : World} {e : Ent} (h : e.Ok w) (hb : Below w.heap.size w w') : e.Ok w' :=
  ⟨h.rV.below hb, h.rM.below hb, h.rA.below hb, h.wV, h.wM⟩
theorem ok0 (w : World) : e0.Ok w :=
  ⟨⟨fun h => by simp [e0] at h, fun i h => by simp [e0] at h, by simp [e0]⟩, ⟨fun h => by simp [e0] at h, fun i h => by simp [e0] at h, by simp [e0]⟩, ⟨fun h => by simp [e0] at h, fun i h => by simp [e0] at h, by simp [e0]⟩, fun k => by simp [e0, Pm.I64], fun k => by simp [e0, Pm.I64]⟩

/-- The six cells of element i of the row that begins at ⟨b, off⟩ hold the values v. -/
def At6 (w : World) (b off i : Nat) (v : Array Value) : Prop :=
  ∀ j, j < 6 → w.cell? ⟨b, off + i * 6 + j, none⟩ = v[j]?
theorem At6.six {w : World} {b off i : Nat} {v0 v1 v2 v3 v4 v5 : Value} (h : At6 w b off i #[v0, v1, v2, v3, v4, v5]) :
    w.cell? ⟨b, off + i * 6, none⟩ = some v0 ∧ w.cell? ⟨b, off + i * 6 + 1, none⟩ = some v1 ∧ w.cell? ⟨b, off + i * 6 + 2, none⟩ = some v2 ∧ w.cell? ⟨b, off + i * 6 + 3, none⟩ = some v3 ∧ w.cell? ⟨b, off + i * 6 + 4, none⟩ = some v4 ∧ w.cell? ⟨b, off + i * 6 + 5, none⟩ = some v5 :=
  ⟨h 0 (by omega), h 1 (by omega), h 2 (by omega), h 3 (by omega), h 4 (by omega), h 5 (by omega)⟩
theorem At6.lt {w : World} {b off i : Nat} {v0 v1 v2 v3 v4 v5 : Value} (h : At6 w b off i #[v0, v1, v2, v3, v4, v5]) : b < w.heap.size := World.block_lt_of_cell? _ _ h.six.1
theorem At6.of {w w' : World} {b off i n : Nat} {v : Array Value} (h : At6 w b off i v) (hb : Below n w w') (hn : b < n) : At6 w' b off i v :=
  fun j hj => (hb.cell hn).trans (h j hj)

/-- The slice at 'a' (its head at block b, offset off, where it is not empty) reads as the entries Q. -/
structure Rd (w : World) (a : Option Addr) (b off : Nat) (Q : List Ent) : Prop where
  head : 0 < Q.length → a = some ⟨b, off, none⟩
  cell : ∀ i, i < Q.length → At6 w b off i (Q.getD i e0).vals
  ok : ∀ i, i < Q.length → (Q.getD i e0).Ok w
  size : Q.length ≤ 4194304
theorem rd_lt {w : World} {a : Option Addr} {b off : Nat} {Q : List Ent} (h : Rd w a b off Q) : Q.length = 0 ∨ b < w.heap.size := by
  rcases Nat.eq_zero_or_pos Q.length with h0 | h0
  · exact .inl h0
  · exact .inr (h.cell 0 h0).lt
theorem Rd.below {w w' : World} {a : Option Addr} {b off : Nat} {Q : List Ent} (h : Rd w a b off Q) (hb : Below w.heap.size w w') : Rd w' a b off Q := by
  refine ⟨h.head, fun i hi => (h.cell i hi).of hb ?_, fun i hi => (h.ok i hi).below hb, h.size⟩
  rcases rd_lt h with h0 | h0
  · omega
  · exact h0

theorem szE_at (r : Raw) (L L' : Nat) (w : World) (h : r.len + L' = L) (hL : L ≤ 1048576) :
    Calls Try.prog 36 #[.agg r.vals, .int .i64 L] w fun e w' => e = .returned (.int .i64 L') ∧ Below w.heap.size w w' := by
  obtain ⟨ep, pr, aV, nV, cV, aM, nM, cM, aA, nA, cA, hh⟩ := r
  simp only [Raw.len] at h
  simp only [Raw.vals]
  obtain ⟨L1, h1⟩ : ∃ L1 : Nat, nA + L' = L1 := ⟨_, rfl⟩
  have hp1 : ¬ ((L1 : Int) < 0) := by omega
  have hp2 : ¬ ((L' : Int) < 0) := by omega
  have e2 : (L1 : Int) - (nA : Int) = (L' : Int) := by omega
  obtain ⟨W0, hW0⟩ : ∃ W0, W0 = w.alloc (.cells #[.int .i64 ep, .int .i64 pr, .slice aV nV cV, .slice aM nM cM, .slice aA nA cA, .int .i64 hh] 64) := ⟨_, rfl⟩
  have B0 : Below w.heap.size w W0 := by subst hW0; exact below_alloc1 _ _
  have k0 : W0.heap[w.heap.size]? = some (.cells #[.int .i64 ep, .int .i64 pr, .slice aV nV cV, .slice aM nM cM, .slice aA nA cA, .int .i64 hh] 64 (0, 0)) := by subst hW0; exact at_new rfl
  go_enter Try.func36, Try.ntmps36
  go_wp2_with (first
    | (go_at_call 82; rw [← hW0]; refine (Rg.szM_at _ _ _ _ _ _ L L1 _ (by omega) hL).mono ?_; rintro e wa ⟨rfl, hb⟩; have q4 : wa.cell? ⟨w.heap.size, 4, none⟩ = some (.slice aA nA cA) := by simp [World.cell?, (hb.block _ (Array.getElem?_eq_some_iff.1 k0).1).trans k0])
    | (go_at_call 83; refine (Yb.sz_small _ _ _ L1 _ (by omega) (by omega)).mono ?_; rw [e2]; rintro e wb ⟨rfl, hw⟩; replace hw := hw.symm; subst hw))
  go_ret
  exact ⟨rfl, Rw.next B0 hb⟩

theorem szE_big (r : Raw) (L : Nat) (w : World) (h : L < r.len) (hL : L ≤ 1048576) (hm : r.nV ≤ maxLen ∧ r.nM ≤ maxLen ∧ r.nA ≤ maxLen) :
    Calls Try.prog 36 #[.agg r.vals, .int .i64 L] w fun e w' => e = .returned (.int .i64 (-1)) ∧ Below w.heap.size w w' := by
  obtain ⟨ep, pr, aV, nV, cV, aM, nM, cM, aA, nA, cA, hh⟩ := r
  simp only [Raw.len] at h
  simp only at hm
  obtain ⟨m1, m2, m3⟩ := hm
  simp only [Raw.vals]
  obtain ⟨W0, hW0⟩ : ∃ W0, W0 = w.alloc (.cells #[.int .i64 ep, .int .i64 pr, .slice aV nV cV, .slice aM nM cM, .slice aA nA cA, .int .i64 hh] 64) := ⟨_, rfl⟩
  have B0 : Below w.heap.size w W0 := by subst hW0; exact below_alloc1 _ _
  have k0 : W0.heap[w.heap.size]? = some (.cells #[.int .i64 ep, .int .i64 pr, .slice aV nV cV, .slice aM nM cM, .slice aA nA cA, .int .i64 hh] 64 (0, 0)) := by subst hW0; exact at_new rfl
  by_cases h1 : L < nV + nM
  · go_enter Try.func36, Try.ntmps36
    go_wp2_with (go_at_call 82; rw [← hW0]; refine (Lm.szM_big _ _ _ _ _ _ L _ h1 hL m1 m2).mono ?_; rintro e wa ⟨rfl, hb⟩)
    go_ret
    exact ⟨rfl, Rw.next B0 hb⟩
  · obtain ⟨L1, e1⟩ : ∃ L1 : Nat, nV + nM + L1 = L := ⟨L - nV - nM, by omega⟩
    have hp1 : ¬ ((L1 : Int) < 0) := by omega
    go_enter Try.func36, Try.ntmps36
    go_wp2_with (first
      | (go_at_call 82; rw [← hW0]; refine (Rg.szM_at _ _ _ _ _ _ L L1 _ e1 hL).mono ?_; rintro e wa ⟨rfl, hb⟩; have q4 : wa.cell? ⟨w.heap.size, 4, none⟩ = some (.slice aA nA cA) := by simp [World.cell?, (hb.block _ (Array.getElem?_eq_some_iff.1 k0).1).trans k0])
      | (go_at_call 83; refine (Yb.sz_big _ _ _ L1 _ (by omega) (by omega) m3).mono ?_; rintro e wb ⟨rfl, hw⟩; replace hw := hw.symm; subst hw))
    go_ret
    exact ⟨rfl, Rw.next B0 hb⟩

end Go.Proofs.Ytcbhpmgjmpbpmaa.Ea
namespace Go.Proofs.Ytcbhpmgjmpbpmaa.Ea
set_option maxRecDepth 8000
open Go Go.ChangeShapes Go.WideShapes Go.RowKit
open Num Pl

instance : Inhabited Raw := ⟨r0⟩
theorem open_ints1 {H : Type} {enc : TypeId × Value → H} {W : World} {fuel : Nat} {v : Value} {x : DataW H × List MemPlace}
    (h : DataW.trod enc Try.prog W 0 (fun _ => true) true fuel 23 [v] = some x) : ∃ a n c z, v = .slice a n c ∧ Rw.IsRow .i64 W a n c z := by
  rcases open_ints Try.underlying23 Try.underlying3 (by kernel_rfl) h with ⟨hcs, _⟩ | ⟨a, l, c, zs, hcs, _, hl, hm, hz, _, hcell, hwz⟩
  · simp at hcs
    subst hcs
    exact ⟨_, _, _, [], rfl, .inl ⟨rfl, rfl, rfl, rfl⟩⟩
  · simp at hcs
    subst hcs
    exact ⟨_, _, _, zs, rfl, .inr ⟨_, rfl, hl, hm, by simpa using hz, hcell, hwz⟩⟩
theorem open_acts1 {H : Type} {enc : TypeId × Value → H} {W : World} {fuel : Nat} {v : Value} {x : DataW H × List MemPlace}
    (h : DataW.trod enc Try.prog W 0 (fun _ => true) true fuel 46 [v] = some x) : ∃ a n c z, v = .slice a n c ∧ Yb.IsRow W a n z := by
  have hs : ∃ a n c, v = .slice a n c := by
    rcases Deep.open_slice Try.underlying46 h with ⟨hcs, _⟩ | ⟨a, l, c, m, n, D, Pl, hcs, _⟩
    · simp at hcs; exact ⟨_, _, _, hcs⟩
    · simp at hcs; exact ⟨_, _, _, hcs⟩
  obtain ⟨a, n, c, rfl⟩ := hs
  obtain ⟨z, hz⟩ := Yb.open_acts (d := x.1) (p := x.2) ⟨fuel, by simpa [Value.cells] using h⟩
  exact ⟨a, n, c, z, rfl, hz⟩

set_option maxHeartbeats 1000000 in
theorem open_ent {H : Type} {enc : TypeId × Value → H} {W : World} {fuel : Nat} {cs : List Value} {x : DataW H × List MemPlace}
    (h : DataW.trod enc Try.prog W 0 (fun _ => true) true fuel 64 cs = some x) : ∃ r : Raw, cs = r.vals.toList ∧ r.Is W := by
  have c3 : Try.prog.cellsOf 3 = 1 := by kernel_rfl
  have c23 : Try.prog.cellsOf 23 = 1 := by kernel_rfl
  have c54 : Try.prog.cellsOf 45 = 2 := by kernel_rfl
  have c55 : Try.prog.cellsOf 46 = 1 := by kernel_rfl
  have c57 : Try.prog.cellsOf 64 = 6 := by kernel_rfl
  obtain ⟨xs, k, _, _, hl, hxl, hf⟩ := DataW.trod_struct Try.underlying64 h
  rw [c57] at hl
  match xs, hxl, cs, hl with
  | [y0, y1, y2, y3, y4], _, [v0, v1, v2, v3, v4, v5], _ =>
    have g0 := hf 0 _ rfl
    have g1 := hf 1 _ rfl
    have g2 := hf 2 _ rfl
    have g3 := hf 3 _ rfl
    have g4 := hf 4 _ rfl
    simp [c3, c54, c55] at g0 g1 g2 g3 g4
    obtain ⟨q0, r0, _⟩ := DataW.trod_int Try.underlying3 g0
    obtain ⟨q1, r1, _⟩ := DataW.trod_int Try.underlying3 g1
    obtain ⟨q4, r4, _⟩ := DataW.trod_int Try.underlying3 g4
    simp at r0 r1 r4
    subst r0 r1 r4
    obtain ⟨z0, z1, k', _, _, t0, t1⟩ := trod_struct2 Try.underlying45 g2
    simp [c23] at t0 t1
    obtain ⟨aV, nV, cV, zV, rfl, iV⟩ := open_ints1 t0
    obtain ⟨aM, nM, cM, zM, rfl, iM⟩ := open_ints1 t1
    obtain ⟨aA, nA, cA, zA, rfl, iA⟩ := open_acts1 g3
    exact ⟨⟨q0, q1, aV, nV, cV, aM, nM, cM, aA, nA, cA, q4⟩, rfl, ⟨zV, iV⟩, ⟨zM, iM⟩, ⟨zA, iA⟩⟩

theorem open_entry {H : Type} {enc : TypeId × Value → H} {W : World} {r : Reach} {b0 : Nat} {v : Value} {d : DataW H} {p : List MemPlace}
    (hv : Value.okWide Try.prog W r b0 64 v) (h : DataW.Trod enc Try.prog W 0 (fun _ => true) true 64 v d p) : ∃ q : Raw, v = .agg q.vals ∧ q.Is W := by
  obtain ⟨cs, rfl, _⟩ := okWide_struct Try.underlying64 hv
  obtain ⟨fuel, hf⟩ := h
  obtain ⟨q, hq, hi⟩ := open_ent hf
  refine ⟨q, ?_, hi⟩
  simp only [Value.cells] at hq
  have : cs = q.vals := by
    apply Array.ext'
    simpa using hq
  rw [this]

/-- A slice of entries that came in. -/
def IsRow (w : World) (a : Option Addr) (R : List Raw) : Prop :=
  R.length ≤ maxLen ∧ (∀ i, i < R.length → (R.getD i r0).Is w) ∧ (R.length = 0 ∨ ∃ b off, a = some ⟨b, off, none⟩ ∧ ∀ i, i < R.length → At6 w b off i (R.getD i r0).vals)

theorem ints_below {w w' : World} {a : Option Addr} {n c : Nat} {z : List Int} (h : Rw.IsRow .i64 w a n c z) (hb : Below w.heap.size w w') : Rw.IsRow .i64 w' a n c z := by
  rcases h with h | ⟨x, h1, h2, h3, h4, h5, h6⟩
  · exact .inl h
  · exact .inr ⟨x, h1, h2, h3, h4, fun i hi => (hb.cell (World.block_lt_of_cell? _ _ (h5 i hi))).trans (h5 i hi), h6⟩
theorem acts_below {w w' : World} {a : Option Addr} {n : Nat} {z : List Yb.A3} (h : Yb.IsRow w a n z) (hb : Below w.heap.size w w') : Yb.IsRow w' a n z := by
  rcases h with h | ⟨b, off, h1, h2, h3, h4⟩
  · exact .inl h
  · exact .inr ⟨b, off, h1, h2, h3, fun i hi => (h4 i hi).below hb⟩
theorem Raw.Is.below {w w' : World} {r : Raw} (h : r.Is w) (hb : Below w.heap.size w w') : r.Is w' := by
  obtain ⟨⟨_, h1⟩, ⟨_, h2⟩, ⟨_, h3⟩⟩ := h
  exact ⟨⟨_, ints_below h1 hb⟩, ⟨_, ints_below h2 hb⟩, ⟨_, acts_below h3 hb⟩⟩
theorem IsRow.below {w w' : World} {a : Option Addr} {R : List Raw} (h : IsRow w a R) (hb : Below w.heap.size w w') : IsRow w' a R := by
  obtain ⟨h1, h2, h3⟩ := h
  refine ⟨h1, fun i hi => (h2 i hi).below hb, h3.imp id ?_⟩
  rintro ⟨b, off, e, hc⟩
  exact ⟨b, off, e, fun i hi => (hc i hi).of hb (At6.lt (hc i hi))⟩

set_option maxHeartbeats 1000000 in
theorem open_ents {H : Type} {enc : TypeId × Value → H} {W : World} {fuel : Nat} {v : Value} {x : DataW H × List MemPlace}
    (h : DataW.trod enc Try.prog W 0 (fun _ => true) true fuel 60 [v] = some x) : ∃ a c R, v = .slice a (List.length R) c ∧ IsRow W a R := by
  have c57 : Try.prog.cellsOf 64 = 6 := by kernel_rfl
  rcases Deep.open_slice Try.underlying60 h with ⟨hcs, _⟩ | ⟨x, len, cap, m, n, D, Pl, hcs, hb, hl, hm, hmm, _, hx⟩
  · simp at hcs
    subst hcs
    exact ⟨none, 0, [], rfl, by simp, fun i hi => by simp at hi, .inl rfl⟩
  · simp at hcs
    subst hcs
    have hlm : len ≤ m := by rw [hmm]; split <;> omega
    have each : ∀ i, i < len → ∃ r : Raw, r.Is W ∧ ∀ j, j < 6 → W.cell? (x.add (i * 6 + j)) = r.vals[j]? := by
      intro i hi
      obtain ⟨cs', h1, h2⟩ := hx i (by omega)
      rw [c57] at h1
      obtain ⟨_, hlen, hcell⟩ := World.cells?_some h1
      obtain ⟨r, hr, hi'⟩ := open_ent h2
      refine ⟨r, hi', fun j hj => ?_⟩
      have e := hcell j (by omega)
      rw [Deep.add_add] at e
      rw [e, ← Array.getElem?_toList, ← hr]
    obtain ⟨q, hq⟩ := Deep.choose_lt each
    have ge : ∀ i, i < len → ((List.range len).map q).getD i r0 = q i := fun i hi => by simp [List.getD, hi]
    refine ⟨some x, cap, (List.range len).map q, by simp, by simp; omega, fun i hi => ?_, ?_⟩
    · simp only [List.length_map, List.length_range] at hi
      rw [ge i hi]
      exact (hq i hi).1
    · by_cases h0 : len = 0
      · left; simp [h0]
      right
      obtain ⟨b, off, spot⟩ := x
      have hc := (hq 0 (by omega)).2 0 (by omega)
      have hspot : spot = none := by
        have : W.cell? (Addr.add ⟨b, off, spot⟩ 0) = some (.int .i64 (q 0).ep) := by simpa [Raw.vals] using hc
        simpa [Addr.add] using World.cell?_spot this
      subst hspot
      refine ⟨b, off, rfl, fun i hi j hj => ?_⟩
      simp only [List.length_map, List.length_range] at hi
      rw [ge i hi, Nat.add_assoc, ← (hq i hi).2 j hj, Yb.add_eq]

theorem open_table {H : Type} {enc : TypeId × Value → H} {W : World} {r : Reach} {b0 : Nat} {v : Value} {d : DataW H} {p : List MemPlace}
    (hv : Value.okWide Try.prog W r b0 62 v) (h : DataW.Trod enc Try.prog W 0 (fun _ => true) true 62 v d p) : ∃ q a c R, v = .agg #[.int .i64 q, .slice a (List.length R) c] ∧ IsRow W a R := by
  have c3 : Try.prog.cellsOf 3 = 1 := by kernel_rfl
  have c63 : Try.prog.cellsOf 60 = 1 := by kernel_rfl
  have c65 : Try.prog.cellsOf 62 = 2 := by kernel_rfl
  obtain ⟨cs, rfl, hsz⟩ := okWide_struct Try.underlying62 hv
  obtain ⟨v0, v1, rfl⟩ := Lm.array2 (hsz.trans c65)
  obtain ⟨fuel, hf⟩ := h
  obtain ⟨y0, y1, k, _, _, g0, g1⟩ := trod_struct2 Try.underlying62 hf
  simp [c3, c63, Value.cells] at g0 g1
  obtain ⟨q0, e0, _⟩ := DataW.trod_int Try.underlying3 g0
  simp at e0
  subst e0
  obtain ⟨a, c, R, rfl, hR⟩ := open_ents g1
  exact ⟨q0, a, c, R, rfl, hR⟩

/-- How much the first k entries take. -/
def tot (R : List Raw) : Nat → Nat
  | 0 => 0
  | k + 1 => tot R k + (R.getD k r0).len
theorem tot_mono (R : List Raw) {i j : Nat} (h : i ≤ j) : tot R i ≤ tot R j := by
  induction j with
  | zero => have : i = 0 := by omega
            subst this; exact Nat.le_refl _
  | succ j ih => rcases Nat.lt_or_ge i (j + 1) with h1 | h1
                 · have := ih (by omega); simp only [tot]; omega
                 · have : i = j + 1 := by omega
                   subst this; exact Nat.le_refl _

theorem raw_lt {w : World} {b off i : Nat} {r : Raw} (h : At6 w b off i r.vals) : b < w.heap.size := At6.lt h

set_option maxHeartbeats 1000000 in
theorem szS_big (a : Option Addr) (c L : Nat) (R : List Raw) (w : World) (hR : IsRow w a R) (h : L < R.length + tot R R.length) (hL : L ≤ 1048576) :
    Calls Try.prog 102 #[.slice a R.length c, .int .i64 L] w fun e w' => e = .returned (.int .i64 (-1)) ∧ Below w.heap.size w w' := by
  obtain ⟨hm, hi, hc⟩ := hR
  unfold maxLen at hm
  obtain ⟨n, hn⟩ : ∃ n, n = R.length := ⟨_, rfl⟩
  rw [← hn] at hm hi hc h ⊢
  clear hn
  by_cases h1 : L < n
  · have hz : (L : Int) - (n : Int) < 0 := by omega
    go_enter Try.func102, Try.ntmps102
    go_wp2
    go_ret
    exact ⟨rfl, Below.refl _ _⟩
  · rcases hc with h0 | ⟨b, off, rfl, hc⟩
    · exfalso
      subst h0
      simp [tot] at h
    obtain ⟨L1, e1⟩ : ∃ L1 : Nat, n + L1 = L := ⟨L - n, by omega⟩
    have hz : (L : Int) - (n : Int) = (L1 : Int) := by omega
    have hz0 : ¬ ((L1 : Int) < 0) := by omega
    go_enter Try.func102, Try.ntmps102
    go_wp2
    clear hz hz0
    go_loopw [1, 5] (fun q i wr => ∃ (k Lk : Nat), k ≤ n ∧ i = .int .i64 k ∧ q = .int .i64 Lk ∧ tot R k + Lk = L1 ∧ Below w.heap.size w wr) (fun _ i _ => n - (intOf i).toNat)
    case atStart => exact ⟨0, L1, Nat.zero_le _, rfl, rfl, by simp [tot], Below.refl _ _⟩
    case round =>
      obtain ⟨k, Lk, hk, rfl, rfl, ht, hbel⟩ := hrel
      by_cases hlt : k < n
      · have hkz : (k : Int) < (n : Int) := by omega
        have hcl := hc k hlt
        have hcw := (hcl.of hbel (raw_lt hcl)).six
        obtain ⟨c0, c1, c2, c3, c4, c5⟩ := hcw
        have hix := hi k hlt
        by_cases hs : Lk < (R.getD k r0).len
        · generalize R.getD k r0 = r at *
          have hpt : ((-1 : Int) < 0) := by omega
          go_wp2_with (go_at_call 36; refine (szE_big r Lk _ hs (by omega) hix.max).mono ?_; rintro e w1 ⟨rfl, hb⟩)
          go_ret
          exact ⟨rfl, Rw.next hbel hb⟩
        · obtain ⟨L2, e2⟩ : ∃ L2 : Nat, (R.getD k r0).len + L2 = Lk := ⟨Lk - (R.getD k r0).len, by omega⟩
          have e3 : tot R (k + 1) + L2 = L1 := by simp only [tot]; omega
          generalize R.getD k r0 = r at *
          have hpt : ¬ ((L2 : Int) < 0) := by omega
          go_wp2_with (go_at_call 36; refine (szE_at r Lk L2 _ e2 (by omega)).mono ?_; rintro e w1 ⟨rfl, hb⟩)
          go_roundw
          case rel => exact ⟨k + 1, L2, by omega, by go_num, rfl, e3, Rw.next hbel hb⟩
          case measure => simp [intOf]; omega
      · exfalso
        have he : k = n := by omega
        subst he
        omega

set_option maxHeartbeats 1000000 in
theorem szS_at (a : Option Addr) (c L L' : Nat) (R : List Raw) (w : World) (hR : IsRow w a R) (h : R.length + tot R R.length + L' = L) (hL : L ≤ 1048576) :
    Calls Try.prog 102 #[.slice a R.length c, .int .i64 L] w fun e w' => e = .returned (.int .i64 L') ∧ Below w.heap.size w w' := by
  obtain ⟨hm, hi, hc⟩ := hR
  obtain ⟨n, hn⟩ : ∃ n, n = R.length := ⟨_, rfl⟩
  rw [← hn] at hm hi hc h ⊢
  clear hn hm
  obtain ⟨L1, e1⟩ : ∃ L1 : Nat, n + L1 = L := ⟨L - n, by omega⟩
  have hz : (L : Int) - (n : Int) = (L1 : Int) := by omega
  have hz0 : ¬ ((L1 : Int) < 0) := by omega
  go_enter Try.func102, Try.ntmps102
  go_wp2
  clear hz hz0
  go_loopw [1, 5] (fun q i wr => ∃ (k Lk : Nat), k ≤ n ∧ i = .int .i64 k ∧ q = .int .i64 Lk ∧ tot R k + Lk = L1 ∧ Below w.heap.size w wr) (fun _ i _ => n - (intOf i).toNat)
  case atStart => exact ⟨0, L1, Nat.zero_le _, rfl, rfl, by simp [tot], Below.refl _ _⟩
  case round =>
    obtain ⟨k, Lk, hk, rfl, rfl, ht, hbel⟩ := hrel
    by_cases hlt : k < n
    · have hkz : (k : Int) < (n : Int) := by omega
      rcases hc with h0 | ⟨b, off, rfl, hc⟩
      · omega
      have hcl := hc k hlt
      have hcw := (hcl.of hbel (raw_lt hcl)).six
      obtain ⟨c0, c1, c2, c3, c4, c5⟩ := hcw
      have tm := tot_mono R (i := k + 1) (j := n) (by omega)
      simp only [tot] at tm
      obtain ⟨L2, e2⟩ : ∃ L2 : Nat, (R.getD k r0).len + L2 = Lk := ⟨Lk - (R.getD k r0).len, by omega⟩
      have e3 : tot R (k + 1) + L2 = L1 := by simp only [tot]; omega
      clear tm
      generalize R.getD k r0 = r at *
      have hpt : ¬ ((L2 : Int) < 0) := by omega
      go_wp2_with (go_at_call 36; refine (szE_at r Lk L2 _ e2 (by omega)).mono ?_; rintro e w1 ⟨rfl, hb⟩)
      go_roundw
      case rel => exact ⟨k + 1, L2, by omega, by go_num, rfl, e3, Rw.next hbel hb⟩
      case measure => simp [intOf]; omega
    · have he : k = n := by omega
      subst he
      have hLk : Lk = L' := by omega
      subst hLk
      go_wp2
      go_ret
      exact ⟨rfl, hbel⟩

theorem szT_at (q : Int) (a : Option Addr) (c L L' : Nat) (R : List Raw) (w : World) (hR : IsRow w a R) (h : R.length + tot R R.length + L' = L) (hL : L ≤ 1048576) :
    Calls Try.prog 35 #[.agg #[.int .i64 q, .slice a R.length c], .int .i64 L] w fun e w' => e = .returned (.int .i64 L') ∧ Below w.heap.size w w' := by
  have B0 := below_alloc1 w (.cells #[.int .i64 q, .slice a R.length c] 62)
  have hR' := hR.below B0
  have hp : ¬ ((L' : Int) < 0) := by omega
  go_enter Try.func35, Try.ntmps35
  go_wp2_with (go_at_call 102; refine (szS_at _ _ L L' _ _ hR' h hL).mono ?_; rintro e w1 ⟨rfl, hb⟩)
  go_ret
  exact ⟨rfl, Rw.next B0 hb⟩

end Go.Proofs.Ytcbhpmgjmpbpmaa.Ea
namespace Go.Proofs.Ytcbhpmgjmpbpmaa.Ea
set_option maxRecDepth 8000
set_option linter.unusedSimpArgs false
set_option linter.unusedVariables false
open Go Go.RowKit
open Num Pl

/-- The entry's slices lie in memory of the call's own, from block lo on, each in a block of its own. -/
structure OwnE (w : World) (lo : Nat) (f : Ent) : Prop where
  mV : Hr.Mine w f.bV f.V
  mM : Hr.Mine w f.bM f.M
  mA : Yb.Mine w f.bA f.A
  aV : f.aV = some ⟨f.bV, 0, none⟩
  aM : f.aM = some ⟨f.bM, 0, none⟩
  aA : f.aA = some ⟨f.bA, 0, none⟩
  oV : f.oV = 0
  oM : f.oM = 0
  oA : f.oA = 0
  lV : lo ≤ f.bV
  lM : lo ≤ f.bM
  lA : lo ≤ f.bA
  d1 : f.bV ≠ f.bM
  d2 : f.bV ≠ f.bA
  d3 : f.bM ≠ f.bA
  wV : Po.Wide f.V
  wM : Po.Wide f.M
theorem OwnE.ok {w : World} {lo : Nat} {f : Ent} (h : OwnE w lo f) : f.Ok w := by
  refine ⟨?_, ?_, ?_, h.wV, h.wM⟩
  · rw [h.aV, h.oV]; exact h.mV.rd
  · rw [h.aM, h.oM]; exact h.mM.rd
  · rw [h.aA, h.oA]; exact h.mA.rd
theorem OwnE.below {w w' : World} {lo : Nat} {f : Ent} (h : OwnE w lo f) (hb : Below w.heap.size w w') : OwnE w' lo f :=
  { h with mV := h.mV.below hb, mM := h.mM.below hb, mA := h.mA.below hb }
theorem mineA_set {w : World} {g : Nat} {l : List Yb.A3} {a : Addr} {u : Value} (h : Yb.Mine w g l) (hne : ¬ a.block = g) : Yb.Mine (w.setCell a u) g l :=
  ⟨h.row.of_block (by simp [World.setCell, Array.getElem?_modify, hne]), h.size⟩

theorem six {w : World} {g : Nat} {v0 v1 v2 v3 v4 v5 : Value} {t : TypeId} {fr : Nat × Nat} (k : w.heap[g]? = some (.cells #[v0, v1, v2, v3, v4, v5] t fr)) :
    w.cell? ⟨g, 0, none⟩ = some v0 ∧ w.cell? ⟨g, 1, none⟩ = some v1 ∧ w.cell? ⟨g, 2, none⟩ = some v2 ∧ w.cell? ⟨g, 3, none⟩ = some v3 ∧ w.cell? ⟨g, 4, none⟩ = some v4 ∧ w.cell? ⟨g, 5, none⟩ = some v5 := by
  simp [World.cell?, k]
theorem blk_same {w : World} {g i : Nat} {cs : Array Value} {u : Value} {t : TypeId} (k : w.heap[g]? = some (.cells cs t (0, 0))) : (w.setCell ⟨g, i, none⟩ u).heap[g]? = some (.cells (cs.setIfInBounds i u) t (0, 0)) := by
  simp [World.setCell, Array.getElem?_modify, k]
theorem blk_other {w : World} {g g' i : Nat} {o : Option Obj} {u : Value} (k : w.heap[g]? = o) (h : g' ≠ g) : (w.setCell ⟨g', i, none⟩ u).heap[g]? = o := by
  simp [World.setCell, Array.getElem?_modify, k, h]
theorem blk_lt {w : World} {g : Nat} {o : Obj} (k : w.heap[g]? = some o) : g < w.heap.size := (Array.getElem?_eq_some_iff.1 k).1

set_option maxHeartbeats 2000000 in
theorem toE_any (e : Ent) (w : World) (h : e.Ok w) :
    Calls Try.prog 39 #[.agg e.vals] w fun x w' => ∃ f : Ent, x = .returned (.agg f.vals) ∧ f.said = e.said ∧ Below w.heap.size w w' ∧ OwnE w' w.heap.size f := by
  obtain ⟨ep, pr, V, M, A, hh, aV, bV, oV, cV, aM, bM, oM, cM, aA, bA, oA, cA⟩ := e
  obtain ⟨rV, rM, rA, wV, wM⟩ := h
  simp only at rV rM rA wV wM
  simp only [Ent.vals]
  obtain ⟨W1, hW1⟩ : ∃ W1, W1 = ((w.alloc (.cells #[.int .i64 ep, .int .i64 pr, .slice aV V.length cV, .slice aM M.length cM, .slice aA A.length cA, .int .i64 hh] 64)).alloc (.cells #[.int .i64 0, .int .i64 0, .slice none 0 0, .slice none 0 0, .slice none 0 0, .int .i64 0] 74)).alloc (.cells #[.int .i64 ep, .int .i64 pr, .slice none 0 0, .slice none 0 0, .slice none 0 0, .int .i64 0] 74) := ⟨_, rfl⟩
  have B1 : Below w.heap.size w W1 := by subst hW1; exact Rw.next (Rw.next (below_alloc1 _ _) (below_alloc1 _ _)) (below_alloc1 _ _)
  have k0 : W1.heap[w.heap.size]? = some (.cells #[.int .i64 ep, .int .i64 pr, .slice aV V.length cV, .slice aM M.length cM, .slice aA A.length cA, .int .i64 hh] 64 (0, 0)) := by subst hW1; rw [at_old (by simp <;> omega), at_old (by simp), at_new rfl]
  have k1 : W1.heap[w.heap.size + 1]? = some (.cells #[.int .i64 0, .int .i64 0, .slice none 0 0, .slice none 0 0, .slice none 0 0, .int .i64 0] 74 (0, 0)) := by subst hW1; rw [at_old (by simp), at_new (by simp)]
  have k2 : W1.heap[w.heap.size + 1 + 1]? = some (.cells #[.int .i64 ep, .int .i64 pr, .slice none 0 0, .slice none 0 0, .slice none 0 0, .int .i64 0] 74 (0, 0)) := by subst hW1; exact at_new (by simp)
  have rV1 := rV.below B1
  have rM1 := rM.below B1
  have rA1 := rA.below B1
  have RA : Hid (Yb.Rd w aA bA oA A) := rA
  have S2 := blk_lt k2
  clear rV rM rA
  go_enter Try.func39, Try.ntmps39
  go_wp2_with (go_at_call 85; rw [← hW1]; refine (Lm.toMatch_any _ _ _ _ _ _ _ _ V M _ rV1 rM1).mono ?_; rintro x wa ⟨gV, gM, rfl, ba, lV, lM, dVM, mV, mM⟩; replace k0 := (ba.block _ (blk_lt k0)).trans k0; replace k1 := (ba.block _ (blk_lt k1)).trans k1; replace k2 := (ba.block _ (blk_lt k2)).trans k2; replace rA1 := rA1.below ba; obtain ⟨p0, p1, p2, p3, p4, p5⟩ := six k0; obtain ⟨r0, r1, r2, r3, r4, r5⟩ := six k2; have f2 := Bl.free k2)
  clear hW1
  obtain ⟨W2, hW2⟩ : ∃ W2, W2 = (wa.setCell ⟨w.heap.size + 1 + 1, 2, none⟩ (.slice (some ⟨gV, 0, none⟩) V.length V.length)).setCell ⟨w.heap.size + 1 + 1, 3, none⟩ (.slice (some ⟨gM, 0, none⟩) M.length M.length) := ⟨_, rfl⟩
  have s1 : w.heap.size + 1 + 1 < gV ∧ w.heap.size + 1 + 1 < gM := ⟨Nat.lt_of_lt_of_le S2 lV, Nat.lt_of_lt_of_le S2 lM⟩
  have sW : W2.heap.size = wa.heap.size := by subst hW2; simp
  replace B1 : Below w.heap.size w W2 := by subst hW2; exact Pm.bset (Pm.bset (Rw.next B1 ba) (by omega)) (by omega)
  replace k0 : W2.heap[w.heap.size]? = some (.cells #[.int .i64 ep, .int .i64 pr, .slice aV V.length cV, .slice aM M.length cM, .slice aA A.length cA, .int .i64 hh] 64 (0, 0)) := by subst hW2; exact blk_other (blk_other k0 (by omega)) (by omega)
  replace k1 : W2.heap[w.heap.size + 1]? = some (.cells #[.int .i64 0, .int .i64 0, .slice none 0 0, .slice none 0 0, .slice none 0 0, .int .i64 0] 74 (0, 0)) := by subst hW2; exact blk_other (blk_other k1 (by omega)) (by omega)
  replace k2 : W2.heap[w.heap.size + 1 + 1]? = some (.cells #[.int .i64 ep, .int .i64 pr, .slice (some ⟨gV, 0, none⟩) V.length V.length, .slice (some ⟨gM, 0, none⟩) M.length M.length, .slice none 0 0, .int .i64 0] 74 (0, 0)) := by subst hW2; exact blk_same (blk_same k2)
  replace mV : Hr.Mine W2 gV V := by subst hW2; exact (mV.set (by simp; omega)).set (by simp; omega)
  replace mM : Hr.Mine W2 gM M := by subst hW2; exact (mM.set (by simp; omega)).set (by simp; omega)
  have rA2 : Yb.Rd W2 aA bA oA A := RA.out.below B1
  have lW : w.heap.size ≤ W2.heap.size := B1.size
  have xV := mV.row.lt
  have xM := mM.row.lt
  clear rA1 r0 r1 r2 r3 r4 r5 f2 p0 p1 p2 p3 p4 p5 ba sW rV1 rM1
  go_wp2_with (go_at_call 86; rw [← hW2]; clear hW2; refine (Yb.toActS_any _ _ _ _ _ _ rA2).mono ?_; rintro x wc ⟨rfl, bc, mA⟩; replace k0 := (bc.block _ (blk_lt k0)).trans k0; replace k1 := (bc.block _ (blk_lt k1)).trans k1; replace k2 := (bc.block _ (blk_lt k2)).trans k2; replace mV := mV.below bc; replace mM := mM.below bc; replace B1 := Rw.next B1 bc; obtain ⟨p0, p1, p2, p3, p4, p5⟩ := six k0; obtain ⟨r0, r1, r2, r3, r4, r5⟩ := six k2; have f2 := Bl.free k2; obtain ⟨q0, q1, q2, q3, q4, q5⟩ := six k1; have f1 := Bl.free k1)
  refine bodyPost_ret (v := .agg #[.int .i64 ep, .int .i64 pr, .slice (some ⟨gV, 0, none⟩) V.length V.length, .slice (some ⟨gM, 0, none⟩) M.length M.length, .slice (some ⟨W2.heap.size, 0, none⟩) A.length A.length, .int .i64 hh]) (by simp [results, Try.results39, go_sem, q0, q1, q2, q3, q4, q5]) rfl ⟨⟨ep, pr, V, M, A, hh, some ⟨gV, 0, none⟩, gV, 0, V.length, some ⟨gM, 0, none⟩, gM, 0, M.length, some ⟨W2.heap.size, 0, none⟩, W2.heap.size, 0, A.length⟩, rfl, rfl, ?_, ?_⟩
  · repeat (first | with_reducible exact B1 | refine Pm.bset ?_ (by omega))
  · refine ⟨?_, ?_, ?_, rfl, rfl, rfl, rfl, rfl, rfl, by simp only; omega, by simp only; omega, lW, dVM, by simp only; omega, by simp only; omega, wV, wM⟩
    · repeat (first | with_reducible exact mV | refine Hr.Mine.set ?_ (by simp; omega))
    · repeat (first | with_reducible exact mM | refine Hr.Mine.set ?_ (by simp; omega))
    · repeat (first | with_reducible exact mA | refine mineA_set ?_ (by simp; omega))

end Go.Proofs.Ytcbhpmgjmpbpmaa.Ea
namespace Go.Proofs.Ytcbhpmgjmpbpmaa.Ea
set_option maxRecDepth 8000
set_option linter.unusedSimpArgs false
set_option linter.unusedVariables false
open Go Go.RowKit
open Num Pl

/-- The value of cell j of a row of entries. -/
def valAt (F : List Ent) (j : Nat) : Value := (F.getD (j / 6) e0).vals.getD (j % 6) (.int .i64 0)
theorem vals_at (e : Ent) (j : Nat) (hj : j < 6) : e.vals[j]? = some (e.vals.getD j (.int .i64 0)) := by
  have : j < e.vals.size := by simp [Ent.vals]; exact hj
  simp [Array.getD, this]
theorem valAt_at (F : List Ent) (i j : Nat) (hj : j < 6) : some (valAt F (i * 6 + j)) = (F.getD i e0).vals[j]? := by
  have e1 : (i * 6 + j) / 6 = i := by omega
  have e2 : (i * 6 + j) % 6 = j := by omega
  rw [valAt, e1, e2, vals_at _ _ hj]
/-- Blocks of two entries lie apart. -/
def Apart (a b : Ent) : Prop := ∀ x, (x = a.bV ∨ x = a.bM ∨ x = a.bA) → ∀ y, (y = b.bV ∨ y = b.bM ∨ y = b.bA) → x ≠ y
/-- The entries' slices lie in memory of the call's own, each in a block of its own. -/
structure OwnQ (w : World) (lo : Nat) (F : List Ent) : Prop where
  each : ∀ f ∈ F, OwnE w lo f
  apart : F.Pairwise Apart
theorem OwnQ.below {w w' : World} {lo : Nat} {F : List Ent} (h : OwnQ w lo F) (hb : Below w.heap.size w w') : OwnQ w' lo F := ⟨fun f hf => (h.each f hf).below hb, h.apart⟩
theorem OwnE.lt {w : World} {lo : Nat} {f : Ent} (h : OwnE w lo f) {x : Nat} (hx : x = f.bV ∨ x = f.bM ∨ x = f.bA) : x < w.heap.size := by
  rcases hx with rfl | rfl | rfl
  · exact h.mV.row.lt
  · exact h.mM.row.lt
  · exact h.mA.row.lt
theorem OwnE.ge {w : World} {lo : Nat} {f : Ent} (h : OwnE w lo f) {x : Nat} (hx : x = f.bV ∨ x = f.bM ∨ x = f.bA) : lo ≤ x := by
  rcases hx with rfl | rfl | rfl
  · exact h.lV
  · exact h.lM
  · exact h.lA
theorem OwnE.mono {w : World} {lo lo' : Nat} {f : Ent} (h : OwnE w lo f) (hl : lo' ≤ lo) : OwnE w lo' f :=
  { h with lV := Nat.le_trans hl h.lV, lM := Nat.le_trans hl h.lM, lA := Nat.le_trans hl h.lA }
theorem OwnQ.nil (w : World) (lo : Nat) : OwnQ w lo [] := ⟨fun _ h => by simp at h, List.Pairwise.nil⟩
theorem OwnQ.snoc {w w' : World} {lo : Nat} {F : List Ent} {f : Ent} (h : OwnQ w lo F) (hb : Below w.heap.size w w') (hf : OwnE w' w.heap.size f) (hlo : lo ≤ w.heap.size) : OwnQ w' lo (F ++ [f]) := by
  refine ⟨fun g hg => ?_, ?_⟩
  · rcases List.mem_append.1 hg with hg | hg
    · exact (h.each g hg).below hb
    · obtain rfl := List.mem_singleton.1 hg
      exact hf.mono hlo
  · rw [List.pairwise_append]
    refine ⟨h.apart, List.pairwise_singleton _ _, fun a ha b hb' x hx y hy => ?_⟩
    obtain rfl := List.mem_singleton.1 hb'
    have := (h.each a ha).lt hx
    have := hf.ge hy
    omega
theorem OwnE.set {w : World} {lo g i : Nat} {f : Ent} {u : Value} (h : OwnE w lo f) (hg : ∀ x, (x = f.bV ∨ x = f.bM ∨ x = f.bA) → g ≠ x) : OwnE (w.setCell ⟨g, i, none⟩ u) lo f :=
  { h with mV := h.mV.set (hg _ (.inl rfl)), mM := h.mM.set (hg _ (.inr (.inl rfl))), mA := mineA_set h.mA (hg _ (.inr (.inr rfl))) }
/-- A block of entries is none of an entry's own blocks. -/
theorem OwnE.ne {w : World} {lo g n : Nat} {f : Ent} {F : Nat → Value} (h : OwnE w lo f) (hg : w.rowIs g 74 n F) {x : Nat} (hx : x = f.bV ∨ x = f.bM ∨ x = f.bA) : g ≠ x := by
  obtain ⟨c, hc, _, _⟩ := hg
  intro e
  subst e
  rcases hx with rfl | rfl | rfl
  · obtain ⟨⟨c', hc', _, _⟩, _⟩ := h.mV
    rw [hc] at hc'; injection hc' with hc'; injection hc' with _ hc' _; exact absurd hc' (by decide)
  · obtain ⟨⟨c', hc', _, _⟩, _⟩ := h.mM
    rw [hc] at hc'; injection hc' with hc'; injection hc' with _ hc' _; exact absurd hc' (by decide)
  · obtain ⟨⟨c', hc', _, _⟩, _⟩ := h.mA
    rw [hc] at hc'; injection hc' with hc'; injection hc' with _ hc' _; exact absurd hc' (by decide)
/-- Six cells of a row of entries are written. -/
def put6 (w : World) (g k : Nat) (f : Ent) : World :=
  (((((w.setCell ⟨g, k * 6, none⟩ (.int .i64 f.ep)).setCell ⟨g, k * 6 + 1, none⟩ (.int .i64 f.pr)).setCell ⟨g, k * 6 + 2, none⟩ (.slice f.aV f.V.length f.cV)).setCell ⟨g, k * 6 + 3, none⟩ (.slice f.aM f.M.length f.cM)).setCell ⟨g, k * 6 + 4, none⟩ (.slice f.aA f.A.length f.cA)).setCell ⟨g, k * 6 + 5, none⟩ (.int .i64 f.h)
theorem OwnE.put {w : World} {lo g k n : Nat} {f e : Ent} {F : Nat → Value} (h : OwnE w lo e) (hg : w.rowIs g 74 n F) : OwnE (put6 w g k f) lo e := by
  have := fun x hx => h.ne hg (x := x) hx
  exact (((((h.set this).set this).set this).set this).set this).set this
theorem put_below {w w' : World} {B g k : Nat} {f : Ent} (h : Below B w w') (hg : B ≤ g) : Below B w (put6 w' g k f) :=
  Pm.bset (Pm.bset (Pm.bset (Pm.bset (Pm.bset (Pm.bset h hg) hg) hg) hg) hg) hg
theorem put_row {w : World} {g n k : Nat} {F G : List Ent} {f : Ent} (h : w.rowIs g 74 n (valAt F)) (hk : ∀ i, G.getD i e0 = if i = k then f else F.getD i e0) :
    (put6 w g k f).rowIs g 74 n (valAt G) := by
  refine ((((((h.set _ _).set _ _).set _ _).set _ _).set _ _).set _ _).congr fun j hj => ?_
  by_cases e : j / 6 = k
  · have hG : G.getD (j / 6) e0 = f := by rw [hk, if_pos e]
    have hr : j % 6 < 6 := Nat.mod_lt _ (by omega)
    show _ = (G.getD (j / 6) e0).vals.getD (j % 6) (.int .i64 0)
    rw [hG]
    by_cases e5 : j = k * 6 + 5
    · rw [if_pos e5, show j % 6 = 5 by omega]; rfl
    rw [if_neg e5]
    by_cases e4 : j = k * 6 + 4
    · rw [if_pos e4, show j % 6 = 4 by omega]; rfl
    rw [if_neg e4]
    by_cases e3 : j = k * 6 + 3
    · rw [if_pos e3, show j % 6 = 3 by omega]; rfl
    rw [if_neg e3]
    by_cases e2 : j = k * 6 + 2
    · rw [if_pos e2, show j % 6 = 2 by omega]; rfl
    rw [if_neg e2]
    by_cases e1 : j = k * 6 + 1
    · rw [if_pos e1, show j % 6 = 1 by omega]; rfl
    rw [if_neg e1]
    rw [if_pos (show j = k * 6 by omega), show j % 6 = 0 by omega]; rfl
  · have hG : G.getD (j / 6) e0 = F.getD (j / 6) e0 := by rw [hk, if_neg e]
    show _ = (G.getD (j / 6) e0).vals.getD (j % 6) (.int .i64 0)
    rw [hG, if_neg (by omega), if_neg (by omega), if_neg (by omega), if_neg (by omega), if_neg (by omega), if_neg (by omega)]
    rfl
theorem snoc_getD (F : List Ent) (f : Ent) (i : Nat) : (F ++ [f]).getD i e0 = if i = F.length then f else F.getD i e0 := by
  by_cases e : i = F.length
  · subst e; simp [List.getD]
  · rw [if_neg e]
    rcases Nat.lt_or_ge i F.length with h | h
    · simp [List.getD, h, List.getElem?_append_left h]
    · have h2 : F.length + 1 ≤ i := by omega
      simp [List.getD, List.getElem?_eq_none, h, h2]

/-- The block g is a row of entries of the call's own. -/
structure Mine (w : World) (lo g : Nat) (F : List Ent) : Prop where
  row : w.rowIs g 74 (F.length * 6) (valAt F)
  own : OwnQ w lo F
  lg : lo ≤ g
  size : F.length ≤ 4194304
theorem Mine.below {w w' : World} {lo g : Nat} {F : List Ent} (h : Mine w lo g F) (hb : Below w.heap.size w w') : Mine w' lo g F :=
  ⟨h.row.of_block (hb.block g h.row.lt), h.own.below hb, h.lg, h.size⟩
theorem getD_mem {F : List Ent} {i : Nat} (h : i < F.length) : F.getD i e0 ∈ F := by
  have : F.getD i e0 = F[i] := by simp [List.getD, h]
  rw [this]; exact List.getElem_mem h
theorem Mine.rd {w : World} {lo g : Nat} {F : List Ent} (h : Mine w lo g F) : Rd w (some ⟨g, 0, none⟩) g 0 F := by
  refine ⟨fun _ => rfl, fun i hi j hj => ?_, fun i hi => (h.own.each _ (getD_mem hi)).ok, h.size⟩
  rw [← valAt_at F i j hj, Nat.zero_add]
  exact h.row.cell (by omega)

theorem Mine.mono {w : World} {lo lo' g : Nat} {F : List Ent} (h : Mine w lo g F) (hl : lo' ≤ lo) : Mine w lo' g F :=
  ⟨h.row, ⟨fun f hf => (h.own.each f hf).mono hl, h.own.apart⟩, Nat.le_trans hl h.lg, h.size⟩
theorem Mine.set {w : World} {lo g b i : Nat} {F : List Ent} {u : Value} (h : Mine w lo g F) (hb : b < lo) : Mine (w.setCell ⟨b, i, none⟩ u) lo g F :=
  ⟨h.row.of_block (blk_other rfl (by have := h.lg; omega)), ⟨fun f hf => (h.own.each f hf).set (fun x hx => by have := (h.own.each f hf).ge hx; omega), h.own.apart⟩, h.lg, h.size⟩

theorem info41 : (Try.prog.info? 74).map (fun i => (i.zero, i.size, i.bytes)) = some (some (.agg e0.vals), 6, 96) := by kernel_rfl
theorem make6 (n : Nat) (hn : n ≤ 4194304) (w : World) :
    (Instr.makeSlice 67 (.int .i64 n) (.int .i64 n)).run Try.prog w = .ok (.slice (some ⟨w.heap.size, 0, none⟩) n n) (w.alloc (.cells (madeCells e0.vals (n * 6)) 74)) := by
  obtain ⟨i, hi, hzz⟩ := Option.map_eq_some_iff.1 info41
  simp only [Prod.mk.injEq] at hzz
  obtain ⟨hz, hs, hb⟩ := hzz
  have hr := run_make (P := Try.prog) w 67 74 i _ Try.underlying67 hi hz .i64 .i64 n n (by omega) (Int.le_refl _) (by rw [hb]; omega) (by omega)
  simp only [Int.toNat_natCast, hs, Value.cells] at hr
  exact hr
theorem made6 (w : World) (n : Nat) : (w.alloc (.cells (madeCells e0.vals (n * 6)) 74)).rowIs w.heap.size 74 (n * 6) (valAt []) :=
  ⟨_, at_new rfl, size_madeCells _ _, fun i hi => by
    have hr : i % 6 < 6 := Nat.mod_lt _ (by omega)
    have e : i % 6 = 0 ∨ i % 6 = 1 ∨ i % 6 = 2 ∨ i % 6 = 3 ∨ i % 6 = 4 ∨ i % 6 = 5 := by omega
    rcases e with e | e | e | e | e | e <;> simp [madeCells, hi, e, valAt, e0, Ent.vals]⟩

theorem ent_vals (e : Ent) : e.vals = #[.int .i64 e.ep, .int .i64 e.pr, .slice e.aV e.V.length e.cV, .slice e.aM e.M.length e.cM, .slice e.aA e.A.length e.cA, .int .i64 e.h] := rfl

set_option maxHeartbeats 2000000 in
theorem toS_any (a : Option Addr) (b off cap : Nat) (Q : List Ent) (w : World) (h : Rd w a b off Q) :
    Calls Try.prog 108 #[.slice a Q.length cap] w fun e w' => ∃ F : List Ent, e = .returned (.slice (some ⟨w.heap.size, 0, none⟩) F.length F.length) ∧ F.map Ent.said = Q.map Ent.said ∧ Below w.heap.size w w' ∧ Mine w' w.heap.size w.heap.size F := by
  obtain ⟨hh, hc, ho, hs⟩ := h
  obtain ⟨n, hn⟩ : ∃ n, n = Q.length := ⟨_, rfl⟩
  have hmk := make6 n (by omega)
  rw [← hn] at hh hc ho hs ⊢
  have HN : Hid (n = Q.length) := hn
  clear hn
  go_enter Try.func108, Try.ntmps108
  go_wp2
  clear hmk
  go_loopw [4] (fun i wr => ∃ (k : Nat) (F : List Ent), k ≤ n ∧ i = .int .i64 k ∧ F.length = k ∧ F.map Ent.said = (Q.take k).map Ent.said ∧ Below w.heap.size w wr ∧ wr.rowIs w.heap.size 74 (n * 6) (valAt F) ∧ OwnQ wr w.heap.size F) (fun i _ => n - (intOf i).toNat)
  case atStart => exact ⟨0, [], Nat.zero_le _, rfl, rfl, by simp, (Below.refl _ _).alloc (Nat.le_refl _) _, made6 w n, OwnQ.nil _ _⟩
  case round =>
    obtain ⟨k, F, hk, rfl, hF, hsaid, hbel, hrow, hown⟩ := hrel
    by_cases hlt : k < n
    · obtain rfl := hh (by omega)
      have hkz : (k : Int) < (n : Int) := by omega
      obtain ⟨c0, c1, c2, c3, c4, c5⟩ := ((hc k hlt).of hbel (At6.lt (hc k hlt))).six
      have hok : (Q.getD k e0).Ok wr := by
        have o := ho k hlt
        exact ⟨⟨o.rV.head, fun i hi => (hbel.cell (World.block_lt_of_cell? _ _ (o.rV.cell i hi))).trans (o.rV.cell i hi), o.rV.size⟩, ⟨o.rM.head, fun i hi => (hbel.cell (World.block_lt_of_cell? _ _ (o.rM.cell i hi))).trans (o.rM.cell i hi), o.rM.size⟩, ⟨o.rA.head, fun i hi => (o.rA.cell i hi).of hbel (o.rA.cell i hi).lt, o.rA.size⟩, o.wV, o.wM⟩
      have hqk : Q.take (k + 1) = Q.take k ++ [Q.getD k e0] := by
        have : k < Q.length := by have := HN.out; omega
        rw [List.take_add_one]; simp [List.getD, this]
      have HQ : Hid (Q.take (k + 1) = Q.take k ++ [Q.getD k e0]) := hqk
      clear hqk hc ho hh
      have hlw := hrow.lt
      generalize Q.getD k e0 = q at *
      have hcall := toE_any q wr hok
      rw [ent_vals q] at hcall
      go_wp2_with (go_at_call 39; refine hcall.mono ?_; rintro e w1 ⟨f, rfl, hfs, hb, hf⟩; rw [ent_vals f]; replace hown := hown.snoc hb hf hbel.size; replace hrow := hrow.of_block (hb.block _ hlw); replace hbel := Rw.next hbel hb; have g0 := hrow.cell (i := k * 6) (by omega); have g1 := hrow.cell (i := k * 6 + 1) (by omega); have g2 := hrow.cell (i := k * 6 + 2) (by omega); have g3 := hrow.cell (i := k * 6 + 3) (by omega); have g4 := hrow.cell (i := k * 6 + 4) (by omega); have g5 := hrow.cell (i := k * 6 + 5) (by omega); have f0 := hrow.frozen (k * 6); have f1 := hrow.frozen (k * 6 + 1); have f2 := hrow.frozen (k * 6 + 2); have f3 := hrow.frozen (k * 6 + 3); have f4 := hrow.frozen (k * 6 + 4); have f5 := hrow.frozen (k * 6 + 5))
      clear hcall
      go_roundw
      case rel => exact ⟨k + 1, F ++ [f], by omega, by go_num, by simp [hF], by rw [HQ.out, List.map_append, List.map_append, hsaid]; simp [hfs], put_below (f := f) (k := k) hbel (Nat.le_refl _), put_row hrow (fun i => by rw [← hF]; exact snoc_getD F f i), ⟨fun g hg => (hown.each g hg).put hrow, hown.apart⟩⟩
      case measure => simp [intOf]; omega
    · have he : k = n := by omega
      subst he
      go_wp2
      go_ret
      have := HN.out
      rw [this, List.take_length] at hsaid
      refine ⟨F, by rw [hF]; rfl, hsaid, hbel, ?_, hown, Nat.le_refl _, by omega⟩
      rw [hF]; exact hrow

set_option maxHeartbeats 1000000 in
theorem toT_any (q : Int) (a : Option Addr) (b off cap : Nat) (Q : List Ent) (w : World) (h : Rd w a b off Q) :
    Calls Try.prog 38 #[.agg #[.int .i64 q, .slice a Q.length cap]] w fun e w' => ∃ (F : List Ent) (g : Nat), e = .returned (.agg #[.int .i64 q, .slice (some ⟨g, 0, none⟩) F.length F.length]) ∧ F.map Ent.said = Q.map Ent.said ∧ Below w.heap.size w w' ∧ Mine w' w.heap.size g F := by
  obtain ⟨W1, hW1⟩ : ∃ W1, W1 = ((w.alloc (.cells #[.int .i64 q, .slice a Q.length cap] 62)).alloc (.cells #[.int .i64 0, .slice none 0 0] 69)).alloc (.cells #[.int .i64 q, .slice none 0 0] 69) := ⟨_, rfl⟩
  have B1 : Below w.heap.size w W1 := by subst hW1; exact Rw.next (Rw.next (below_alloc1 _ _) (below_alloc1 _ _)) (below_alloc1 _ _)
  have k1 : W1.heap[w.heap.size + 1]? = some (.cells #[.int .i64 0, .slice none 0 0] 69 (0, 0)) := by subst hW1; rw [at_old (by simp), at_new (by simp)]
  have k2 : W1.heap[w.heap.size + 1 + 1]? = some (.cells #[.int .i64 q, .slice none 0 0] 69 (0, 0)) := by subst hW1; exact at_new (by simp)
  have r1 := h.below B1
  have s1 := blk_lt k2
  go_enter Try.func38, Try.ntmps38
  go_wp2_with (go_at_call 108; rw [← hW1]; clear hW1; refine (toS_any _ _ _ _ _ _ r1).mono ?_; rintro e wa ⟨F, rfl, hs, ba, hm⟩; replace k1 := (ba.block _ (blk_lt k1)).trans k1; replace k2 := (ba.block _ (blk_lt k2)).trans k2; obtain ⟨p0, p1⟩ := Pm.two k1; obtain ⟨q0, q1⟩ := Pm.two k2; have f1 := Bl.free k1; have f2 := Bl.free k2)
  refine bodyPost_ret (v := .agg #[.int .i64 q, .slice (some ⟨W1.heap.size, 0, none⟩) F.length F.length]) (by simp [results, Try.results38, go_sem, p0, p1]) rfl ⟨F, W1.heap.size, rfl, hs, ?_, ?_⟩
  · have B2 := Rw.next B1 ba
    repeat (first | with_reducible exact B2 | refine Pm.bset ?_ (by omega))
  · refine Mine.mono (lo := W1.heap.size) ?_ B1.size
    repeat (first | with_reducible exact hm | refine Mine.set ?_ (by omega))

end Go.Proofs.Ytcbhpmgjmpbpmaa.Ea
namespace Go.Proofs.Ytcbhpmgjmpbpmaa.Ea
set_option maxRecDepth 8000
set_option linter.unusedSimpArgs false
set_option linter.unusedVariables false
open Go Go.RowKit
open Num Pl

set_option maxHeartbeats 2000000 in
theorem eqE_same (e f : Ent) (w : World) (he : e.Ok w) (hf : f.Ok w) (hs : e.said = f.said) :
    Calls Try.prog 42 #[.agg e.vals, .agg f.vals] w fun x w' => x = .returned (.bool true) ∧ Below w.heap.size w w' := by
  obtain ⟨ep, pr, V, M, A, hh, aV, bV, oV, cV, aM, bM, oM, cM, aA, bA, oA, cA⟩ := e
  obtain ⟨ep', pr', V', M', A', hh', aV', bV', oV', cV', aM', bM', oM', cM', aA', bA', oA', cA'⟩ := f
  simp only [Ent.said, Prod.mk.injEq] at hs
  obtain ⟨rfl, rfl, rfl, rfl, rfl, rfl⟩ := hs
  obtain ⟨rV, rM, rA, wV, wM⟩ := he
  obtain ⟨sV, sM, sA, uV, uM⟩ := hf
  simp only at rV rM rA sV sM sA
  simp only [Ent.vals]
  obtain ⟨W1, hW1⟩ : ∃ W1, W1 = (w.alloc (.cells #[.int .i64 ep, .int .i64 pr, .slice aV V.length cV, .slice aM M.length cM, .slice aA A.length cA, .int .i64 hh] 74)).alloc (.cells #[.int .i64 ep, .int .i64 pr, .slice aV' V.length cV', .slice aM' M.length cM', .slice aA' A.length cA', .int .i64 hh] 74) := ⟨_, rfl⟩
  have B1 : Below w.heap.size w W1 := by subst hW1; exact Rw.next (below_alloc1 _ _) (below_alloc1 _ _)
  have k0 : W1.heap[w.heap.size]? = some (.cells #[.int .i64 ep, .int .i64 pr, .slice aV V.length cV, .slice aM M.length cM, .slice aA A.length cA, .int .i64 hh] 74 (0, 0)) := by subst hW1; rw [at_old (by simp), at_new rfl]
  have k1 : W1.heap[w.heap.size + 1]? = some (.cells #[.int .i64 ep, .int .i64 pr, .slice aV' V.length cV', .slice aM' M.length cM', .slice aA' A.length cA', .int .i64 hh] 74 (0, 0)) := by subst hW1; exact at_new (by simp)
  replace rV := rV.below B1
  replace rM := rM.below B1
  replace rA := rA.below B1
  replace sV := sV.below B1
  replace sM := sM.below B1
  replace sA := sA.below B1
  go_enter Try.func42, Try.ntmps42
  go_wp2_with (first
    | (go_at_call 90; rw [← hW1]; clear hW1; refine (Lm.eqMatch_same _ _ _ _ _ _ _ _ _ _ _ _ _ _ _ _ V M _ rV rM sV sM).mono ?_; rintro x wa ⟨rfl, ba⟩; replace k0 := (ba.block _ (blk_lt k0)).trans k0; replace k1 := (ba.block _ (blk_lt k1)).trans k1; replace rA := rA.below ba; replace sA := sA.below ba; replace B1 := Rw.next B1 ba; clear ba; obtain ⟨p0, p1, p2, p3, p4, p5⟩ := six k0; obtain ⟨r0, r1, r2, r3, r4, r5⟩ := six k1)
    | (go_at_call 91; refine (Yb.eqActS_any _ _ _ _ _ _ _ _ A A _ rA sA).mono ?_; rw [decide_eq_true rfl]; rintro x wb ⟨rfl, bb⟩; replace k0 := (bb.block _ (blk_lt k0)).trans k0; replace k1 := (bb.block _ (blk_lt k1)).trans k1; replace B1 := Rw.next B1 bb; clear bb p0 p1 p2 p3 p4 p5 r0 r1 r2 r3 r4 r5; obtain ⟨p0, p1, p2, p3, p4, p5⟩ := six k0; obtain ⟨r0, r1, r2, r3, r4, r5⟩ := six k1))
  go_ret
  exact ⟨rfl, B1⟩

theorem Ent.Ok.of {w w' : World} {n : Nat} {e : Ent} (o : e.Ok w) (hb : Below n w w') (hn : w.heap.size ≤ n) : e.Ok w' := by
  refine ⟨⟨o.rV.head, fun i hi => (hb.cell ?_).trans (o.rV.cell i hi), o.rV.size⟩, ⟨o.rM.head, fun i hi => (hb.cell ?_).trans (o.rM.cell i hi), o.rM.size⟩, ⟨o.rA.head, fun i hi => (o.rA.cell i hi).of hb ?_, o.rA.size⟩, o.wV, o.wM⟩
  · exact Nat.lt_of_lt_of_le (World.block_lt_of_cell? _ _ (o.rV.cell i hi)) hn
  · exact Nat.lt_of_lt_of_le (World.block_lt_of_cell? _ _ (o.rM.cell i hi)) hn
  · exact Nat.lt_of_lt_of_le (o.rA.cell i hi).lt hn

theorem said_len {Q F : List Ent} (h : Q.map Ent.said = F.map Ent.said) : Q.length = F.length := by
  have := congrArg List.length h
  simpa using this
theorem said_at {Q F : List Ent} (h : Q.map Ent.said = F.map Ent.said) (i : Nat) : (Q.getD i e0).said = (F.getD i e0).said := by
  have e : (Q.map Ent.said).getD i e0.said = (F.map Ent.said).getD i e0.said := by rw [h]
  simpa [List.getD, Option.getD_map] using e

set_option maxHeartbeats 4000000 in
theorem eqS_same (a a' : Option Addr) (b off c b' off' c' : Nat) (Q F : List Ent) (w : World) (hQ : Rd w a b off Q) (hF : Rd w a' b' off' F) (hs : Q.map Ent.said = F.map Ent.said) :
    Calls Try.prog 115 #[.slice a Q.length c, .slice a' F.length c'] w fun x w' => x = .returned (.bool true) ∧ Below w.heap.size w w' := by
  obtain ⟨hh, hc, ho, hsz⟩ := hQ
  obtain ⟨hh', hc', ho', hsz'⟩ := hF
  have hl := said_len hs
  rw [← hl] at hh' hc' ho' ⊢
  obtain ⟨n, hn⟩ : ∃ n, n = Q.length := ⟨_, rfl⟩
  rw [← hn] at hh hc ho hsz hh' hc' ho' ⊢
  clear hn hl hsz'
  have hsa := said_at hs
  clear hs
  go_enter Try.func115, Try.ntmps115
  go_wp2
  go_loopw [5] (fun i wr => ∃ k : Nat, k ≤ n ∧ i = .int .i64 k ∧ Below w.heap.size w wr) (fun i _ => n - (intOf i).toNat)
  case atStart => exact ⟨0, Nat.zero_le _, rfl, Below.refl _ _⟩
  case round =>
    obtain ⟨k, hk, rfl, hbel⟩ := hrel
    by_cases hlt : k < n
    · obtain rfl := hh (by omega)
      obtain rfl := hh' (by omega)
      have hkz : (k : Int) < (n : Int) := by omega
      obtain ⟨c0, c1, c2, c3, c4, c5⟩ := ((hc k hlt).of hbel (At6.lt (hc k hlt))).six
      obtain ⟨d0, d1, d2, d3, d4, d5⟩ := ((hc' k hlt).of hbel (At6.lt (hc' k hlt))).six
      have o1 := (ho k hlt).of hbel (Nat.le_refl _)
      have o2 := (ho' k hlt).of hbel (Nat.le_refl _)
      have ss := hsa k
      clear hc hc' ho ho' hh hh' hsa
      generalize Q.getD k e0 = q at *
      generalize F.getD k e0 = f at *
      have hcall := fun W o1 o2 => eqE_same q f W o1 o2 ss
      simp only [ent_vals] at hcall
      go_wp2
      go_region_with (go_at_call 42; refine (hcall _ (o1.of (by repeat (first | exact Below.refl _ _ | apply Below.drew)) (Nat.le_refl _)) (o2.of (by repeat (first | exact Below.refl _ _ | apply Below.drew)) (Nat.le_refl _))).mono ?_; rintro e w1 ⟨rfl, hb⟩)
      all_goals go_wp2
      all_goals go_roundw
      all_goals first
        | exact ⟨k + 1, by omega, by go_num, Rw.next (by repeat (first | exact hbel | apply Below.drew)) hb⟩
        | (simp [intOf]; omega)
    · have he : k = n := by omega
      subst he
      go_wp2
      go_ret
      exact ⟨rfl, hbel⟩

end Go.Proofs.Ytcbhpmgjmpbpmaa.Ea
