/-
  Contracts of the pairs that are made of a match.
-/
import Derived.Test.YtcbgnfjnjfaacaaPm
namespace Go.Proofs.Ytcbgnfjnjfaacaa.Po
set_option maxRecDepth 8000
open Go Go.RowKit
open Num Pl Hr Hh Hf Hg Pa Pm

/-- Every number is one of 64 bits. -/
def Wide (l : List Int) : Prop := ∀ k, I64 (l.getD k 0)
/-- The first k pairs are right. -/
def uptoP (V M : List Int) : Nat → Bool
  | 0 => true
  | k + 1 => uptoP V M k && pairB k (V.getD k 0) (M.getD k 0)
theorem uptoP_no {V M : List Int} {k : Nat} (h : pairB k (V.getD k 0) (M.getD k 0) = false) : ∀ j, k < j → uptoP V M j = false
  | 0, hj => by omega
  | j + 1, hj => by
    by_cases e : j = k
    · subst e; simp only [uptoP, h, Bool.and_false]
    · simp only [uptoP, uptoP_no h j (by omega), Bool.false_and]
theorem uptoP_step {V M : List Int} {k : Nat} (h : uptoP V M k = true) (hk : pairB k (V.getD k 0) (M.getD k 0) = true) : uptoP V M (k + 1) = true := by
  simp only [uptoP, h, hk, Bool.and_self]
theorem uptoP_at {V M : List Int} : ∀ {j : Nat}, uptoP V M j = true → ∀ k, k < j → pairB k (V.getD k 0) (M.getD k 0) = true
  | 0, _, k, hk => by omega
  | j + 1, h, k, hk => by
    simp only [uptoP, Bool.and_eq_true] at h
    by_cases e : k = j
    · subst e; exact h.2
    · exact uptoP_at h.1 k (by omega)
/-- The match is right. -/
def matchB (V M : List Int) : Bool := decide (V.length = 8) && decide (M.length = 8) && uptoP V M 8
/-- The numbers of a list, by their places. -/
def nth (l : List Int) : Nat → Int := fun k => l.getD k 0
/-- What the pairs of a match are: nothing where it isn't right. -/
def pv (V M : List Int) : Nat → Int := if matchB V M = true then nth V else nul
def pm (V M : List Int) : Nat → Int := if matchB V M = true then nth M else nul
theorem pv_no {V M : List Int} (h : matchB V M = false) : pv V M = nul := by unfold pv; rw [h]; rfl
theorem pm_no {V M : List Int} (h : matchB V M = false) : pm V M = nul := by unfold pm; rw [h]; rfl
theorem pv_yes {V M : List Int} (h : matchB V M = true) : pv V M = nth V := by unfold pv; rw [h]; rfl
theorem pm_yes {V M : List Int} (h : matchB V M = true) : pm V M = nth M := by unfold pm; rw [h]; rfl

theorem tuple_row {fn : Func} {p : Tmp} {q : Tmp} (h : fn.results = #[.cell p 97, .tmp q]) (tmps : Array Value) (w : World) (g : Nat) {v m : Nat → Int} {ok : Value}
    (hp : tmps.getD p undef = .pointer (some ⟨g, 0, none⟩)) (hq : tmps.getD q undef = ok) (hg : Has w g v m) :
    (results fn tmps).run Try.prog w = .ok (.tuple #[.agg (enc v m), ok]) w := by
  have hp' : tmps[p]?.getD undef = .pointer (some ⟨g, 0, none⟩) := by simpa using hp
  have hq' : tmps[q]?.getD undef = ok := by simpa using hq
  simp [results, h, hp', hq', asAddr, load_has hg]

theorem lens_no {V M : List Int} (h : ¬ (V.length = 8 ∧ M.length = 8)) : matchB V M = false := by
  unfold matchB
  by_cases h1 : V.length = 8
  · have h2 : ¬ M.length = 8 := fun e => h ⟨h1, e⟩
    rw [decide_eq_false h2]; simp
  · rw [decide_eq_false h1]; simp

set_option maxHeartbeats 2000000 in
theorem pairs_short (aV aM : Option Addr) (cV cM : Nat) (V M : List Int) (w : World) (h : ¬ (V.length = 8 ∧ M.length = 8)) :
    Calls Try.prog 72 #[.agg #[.slice aV V.length cV, .slice aM M.length cM]] w fun e w' => e = .returned (.tuple #[.agg (enc nul nul), .bool false]) ∧ Below w.heap.size w w' := by
  have hR : Has ((w.alloc (.cells #[.slice aV V.length cV, .slice aM M.length cM] 25)).alloc (.cells #[.int .i64 0, .int .i64 0, .int .i64 0, .int .i64 0, .int .i64 0, .int .i64 0, .int .i64 0, .int .i64 0, .int .i64 0, .int .i64 0, .int .i64 0, .int .i64 0, .int .i64 0, .int .i64 0, .int .i64 0, .int .i64 0] 97)) (w.heap.size + 1) nul nul := has_zero (by simp)
  have B := Rw.next (below_alloc1 w (.cells #[.slice aV V.length cV, .slice aM M.length cM] 25)) (below_alloc1 _ (.cells #[.int .i64 0, .int .i64 0, .int .i64 0, .int .i64 0, .int .i64 0, .int .i64 0, .int .i64 0, .int .i64 0, .int .i64 0, .int .i64 0, .int .i64 0, .int .i64 0, .int .i64 0, .int .i64 0, .int .i64 0, .int .i64 0] 97))
  by_cases h1 : V.length = 8
  · have h2 : ((M.length : Int) != 8) = true := by simp; omega
    have h3 : ((V.length : Int) != 8) = false := by simp; omega
    clear h h1
    go_enter Try.func72, Try.ntmps72
    go_wp2_with (refine store66 (v := nul) (m := nul) rfl _ _ rfl rfl (by rw [enc_nul]; rfl) hR (fun w' hN hS => ?_))
    exact bodyPost_ret (tuple_row rfl _ _ _ rfl rfl hN) rfl ⟨rfl, hS.below B (Nat.le_succ _)⟩
  · have h2 : ((V.length : Int) != 8) = true := by simp; omega
    clear h
    go_enter Try.func72, Try.ntmps72
    go_wp2_with (refine store66 (v := nul) (m := nul) rfl _ _ rfl rfl (by rw [enc_nul]; rfl) hR (fun w' hN hS => ?_))
    exact bodyPost_ret (tuple_row rfl _ _ _ rfl rfl hN) rfl ⟨rfl, hS.below B (Nat.le_succ _)⟩

set_option maxHeartbeats 4000000 in
theorem pairs_full (bV oV cV bM oM cM : Nat) (V M : List Int) (w : World) (hV : Rd w (some ⟨bV, oV, none⟩) bV oV V) (hM : Rd w (some ⟨bM, oM, none⟩) bM oM M) (hW : Wide V) (h1 : V.length = 8) (h2 : M.length = 8) :
    Calls Try.prog 72 #[.agg #[.slice (some ⟨bV, oV, none⟩) 8 cV, .slice (some ⟨bM, oM, none⟩) 8 cM]] w fun e w' => e = .returned (.tuple #[.agg (enc (pv V M) (pm V M)), .bool (matchB V M)]) ∧ Below w.heap.size w w' := by
  have HB : Hid (matchB V M = uptoP V M 8) := (by unfold matchB; rw [decide_eq_true h1, decide_eq_true h2]; rfl : matchB V M = uptoP V M 8)
  have HV : Hid (∀ k, k < 8 → w.cell? ⟨bV, oV + k, none⟩ = some (.int .i64 (nth V k))) := (fun k hk => hV.cell k (by omega) : ∀ k, k < 8 → w.cell? ⟨bV, oV + k, none⟩ = some (.int .i64 (nth V k)))
  have HM : Hid (∀ k, k < 8 → w.cell? ⟨bM, oM + k, none⟩ = some (.int .i64 (nth M k))) := (fun k hk => hM.cell k (by omega) : ∀ k, k < 8 → w.cell? ⟨bM, oM + k, none⟩ = some (.int .i64 (nth M k)))
  have HW : Hid (Wide V) := hW
  obtain ⟨W0, hW0⟩ : ∃ W0, W0 = ((w.alloc (.cells #[.slice (some ⟨bV, oV, none⟩) 8 cV, .slice (some ⟨bM, oM, none⟩) 8 cM] 25)).alloc (.cells #[.int .i64 0, .int .i64 0, .int .i64 0, .int .i64 0, .int .i64 0, .int .i64 0, .int .i64 0, .int .i64 0, .int .i64 0, .int .i64 0, .int .i64 0, .int .i64 0, .int .i64 0, .int .i64 0, .int .i64 0, .int .i64 0] 97)).alloc (.cells #[.int .i64 0, .int .i64 0, .int .i64 0, .int .i64 0, .int .i64 0, .int .i64 0, .int .i64 0, .int .i64 0, .int .i64 0, .int .i64 0, .int .i64 0, .int .i64 0, .int .i64 0, .int .i64 0, .int .i64 0, .int .i64 0] 97) := ⟨_, rfl⟩
  have B0 : Below w.heap.size w W0 := by subst hW0; exact Rw.next (Rw.next (below_alloc1 _ _) (below_alloc1 _ _)) (below_alloc1 _ _)
  have k0 : W0.heap[w.heap.size]? = some (.cells #[.slice (some ⟨bV, oV, none⟩) 8 cV, .slice (some ⟨bM, oM, none⟩) 8 cM] 25 (0, 0)) := by subst hW0; rw [at_old (by simp; omega), at_old (by simp), at_new rfl]
  have hR : Has W0 (w.heap.size + 1) nul nul := by subst hW0; exact has_old (has_zero (by simp))
  have hL : Has W0 (w.heap.size + 1 + 1) nul nul := by subst hW0; exact has_zero (by simp)
  clear hV hM hW h1 h2
  go_enter Try.func72, Try.ntmps72
  go_wp2
  rw [← hW0]
  clear hW0
  go_loopw [17] (fun i wr => ∃ k : Nat, k ≤ 8 ∧ i = .int .i64 k ∧ Below w.heap.size w wr ∧ wr.heap[w.heap.size]? = some (.cells #[.slice (some ⟨bV, oV, none⟩) 8 cV, .slice (some ⟨bM, oM, none⟩) 8 cM] 25 (0, 0)) ∧ Has wr (w.heap.size + 1) nul nul ∧ Has wr (w.heap.size + 1 + 1) (cut (nth V) nul k) (cut (nth M) nul k) ∧ uptoP V M k = true) (fun i _ => 8 - (intOf i).toNat)
  case atStart => exact ⟨0, Nat.zero_le _, rfl, B0, k0, hR, hL.cast (by funext i; simp [cut]) (by funext i; simp [cut]), rfl⟩
  case round =>
    obtain ⟨k, hk, rfl, hbel, q0, hr, hl, hup⟩ := hrel
    have HU : Hid (uptoP V M k = true) := hup
    clear hup B0 k0 hR hL
    have z0 := (Array.getElem?_eq_some_iff.1 q0).1
    have z1 := hr.lt
    have z2 := hl.lt
    by_cases hlt : k < 8
    · have hkz : (k : Int) < 8 := by omega
      have g0 : wr.cell? ⟨bV, oV + k, none⟩ = some (.int .i64 (nth V k)) := (hbel.cell (World.block_lt_of_cell? _ _ (HV.out k hlt))).trans (HV.out k hlt)
      have g1 : wr.cell? ⟨bM, oM + k, none⟩ = some (.int .i64 (nth M k)) := (hbel.cell (World.block_lt_of_cell? _ _ (HM.out k hlt))).trans (HM.out k hlt)
      obtain ⟨c0, c1⟩ := two q0
      have d0 := hl.v hlt
      have d1 := hl.m hlt
      rw [cut_at] at d0 d1
      have f0 := hl.free (k * 2)
      have f1 := hl.free (k * 2 + 1)
      have HQ : Hid (wr.heap[w.heap.size]? = some (.cells #[.slice (some ⟨bV, oV, none⟩) 8 cV, .slice (some ⟨bM, oM, none⟩) 8 cM] 25 (0, 0))) := q0
      have HR : Hid (Has wr (w.heap.size + 1) nul nul) := hr
      have HL : Hid (Has wr (w.heap.size + 1 + 1) (cut (nth V) nul k) (cut (nth M) nul k)) := hl
      clear q0 hr hl
      have hf := fun w' => right_any k (nth V k) (nth M k) w' (HW.out k)
      have HN : Hid (pairB k (nth V k) (nth M k) = false → uptoP V M 8 = false) := (fun h => uptoP_no h 8 hlt : pairB k (nth V k) (nth M k) = false → uptoP V M 8 = false)
      have HY : Hid (pairB k (nth V k) (nth M k) = true → uptoP V M (k + 1) = true) := (fun h => uptoP_step HU.out h : pairB k (nth V k) (nth M k) = true → uptoP V M (k + 1) = true)
      have HF : Hid (∀ w', Calls Try.prog 125 #[.agg #[.int .i64 (nth V k), .int .i64 (nth M k)], .int .i64 k] w' fun e w'' => e = .returned (.bool (pairB k (nth V k) (nth M k))) ∧ Below w'.heap.size w' w'') := hf
      clear hf
      go_wp2
      go_region
      obtain ⟨wx, hwx⟩ : ∃ wx, wx = ((wr.setCell ⟨w.heap.size + 1 + 1, k * 2, none⟩ (.int .i64 (nth V k))).setCell ⟨w.heap.size + 1 + 1, k * 2 + 1, none⟩ (.int .i64 (nth M k))).drew := ⟨_, rfl⟩
      rw [← hwx]
      have bx : Below w.heap.size w wx := by subst hwx; exact (bset (bset hbel (by omega)) (by omega)).drew
      have qx : wx.heap[w.heap.size]? = some (.cells #[.slice (some ⟨bV, oV, none⟩) 8 cV, .slice (some ⟨bM, oM, none⟩) 8 cM] 25 (0, 0)) := by subst hwx; rw [heap_drew]; exact blk_set (blk_set HQ.out (by simp; omega)) (by simp; omega)
      have rx : Has wx (w.heap.size + 1) nul nul := by subst hwx; exact ((HR.out.set_other (by simp) _).set_other (by simp) _).drew
      have lx : Has wx (w.heap.size + 1 + 1) (cut (nth V) nul (k + 1)) (cut (nth M) nul (k + 1)) := by subst hwx; exact (((HL.out.set_v hlt _).set_m hlt _).cast (upd_cut _ _ k) (upd_cut _ _ k)).drew
      have e0 := lx.v hlt
      have e1 := lx.m hlt
      have a0 : cut (nth V) nul (k + 1) k = nth V k := by simp [cut]
      have a1 : cut (nth M) nul (k + 1) k = nth M k := by simp [cut]
      rw [a0] at e0
      rw [a1] at e1
      clear a0 a1 hwx g0 g1 c0 c1 d0 d1 f0 f1 HQ HR HL hbel z0 z1 z2
      have HX : Hid (wx.heap[w.heap.size]? = some (.cells #[.slice (some ⟨bV, oV, none⟩) 8 cV, .slice (some ⟨bM, oM, none⟩) 8 cM] 25 (0, 0))) := qx
      have HRX : Hid (Has wx (w.heap.size + 1) nul nul) := rx
      have HLX : Hid (Has wx (w.heap.size + 1 + 1) (cut (nth V) nul (k + 1)) (cut (nth M) nul (k + 1))) := lx
      have lt0 := (Array.getElem?_eq_some_iff.1 qx).1
      clear qx rx lx
      have hf := HF.out wx
      clear HF
      cases hx : pairB k (nth V k) (nth M k) with
      | true =>
        rw [hx] at hf
        go_wp2_with (go_at_call 125; refine hf.mono ?_; rintro e wa ⟨rfl, hba⟩)
        go_roundw
        case rel => exact ⟨k + 1, by omega, by go_num, Rw.next bx hba, (hba.block _ lt0).trans HX.out, HRX.out.below hba, HLX.out.below hba, HY.out hx⟩
        case measure => simp [intOf]; omega
      | false =>
        rw [hx] at hf
        have ho : matchB V M = false := HB.out.trans (HN.out hx)
        go_wp2_with (first | (go_at_call 125; refine hf.mono ?_; rintro e wa ⟨rfl, hba⟩) | (refine store66 (v := nul) (m := nul) rfl _ _ rfl rfl (by rw [enc_nul]; rfl) (HRX.out.below hba) (fun w' hN hS => ?_)))
        rw [ho, pv_no ho, pm_no ho]
        exact bodyPost_ret (tuple_row rfl _ _ _ rfl rfl hN) rfl ⟨rfl, hS.below (Rw.next bx hba) (Nat.le_succ _)⟩
    · have he : k = 8 := by omega
      subst he
      have ho : matchB V M = true := HB.out.trans HU.out
      have e8 : enc (cut (nth V) nul 8) (cut (nth M) nul 8) = enc (nth V) (nth M) := enc_congr (fun k hk => by simp [cut, hk]) (fun k hk => by simp [cut, hk])
      have hl' : Has wr (w.heap.size + 1 + 1) (nth V) (nth M) := by unfold Has at *; rw [← e8]; exact hl
      clear hl e8
      go_wp2_with (first | (refine load66 rfl _ rfl rfl hl' ?_) | (refine store66 rfl _ _ rfl rfl rfl hr (fun w' hN hS => ?_)))
      rw [ho, pv_yes ho, pm_yes ho]
      exact bodyPost_ret (tuple_row rfl _ _ _ rfl rfl hN) rfl ⟨rfl, hS.below hbel (Nat.le_succ _)⟩

theorem rd_some {w : World} {a : Option Addr} {b off : Nat} {l : List Int} (h : Rd w a b off l) (h8 : l.length = 8) : a = some ⟨b, off, none⟩ := h.head (by omega)

theorem pairs_any (aV aM : Option Addr) (bV oV cV bM oM cM : Nat) (V M : List Int) (w : World) (hV : Rd w aV bV oV V) (hM : Rd w aM bM oM M) (hW : Wide V) :
    Calls Try.prog 72 #[.agg #[.slice aV V.length cV, .slice aM M.length cM]] w fun e w' => e = .returned (.tuple #[.agg (enc (pv V M) (pm V M)), .bool (matchB V M)]) ∧ Below w.heap.size w w' := by
  by_cases h : V.length = 8 ∧ M.length = 8
  · obtain ⟨h1, h2⟩ := h
    obtain rfl := rd_some hV h1
    obtain rfl := rd_some hM h2
    rw [h1, h2]
    exact pairs_full bV oV cV bM oM cM V M w hV hM hW h1 h2
  · have ho := lens_no h
    rw [ho, pv_no ho, pm_no ho]
    exact pairs_short aV aM cV cM V M w h

end Go.Proofs.Ytcbgnfjnjfaacaa.Po
