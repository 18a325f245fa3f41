/-
  Contracts laid together (Ya, Yl, Ym, Yn, Yo, Yp, Yq, Draw, Drawb, Tg, Dp, Mr, Mm, Mu, Da, Yu, Yx, Cp, Cq).
-/
import Derived.Test.YtcbgnfjnjfaacaaQg
import Derived.Deep.RegionHeld3
namespace Go.Proofs.Ytcbgnfjnjfaacaa.Ya
open Go Go.RowKit
open Num Pl Hr

/-- The first k ports are right and rise. -/
def pre (l : List Int) (k : Nat) : Prop := ∀ i, i < k → 1 ≤ l.getD i 0 ∧ l.getD i 0 ≤ 255 ∧ (0 < i → l.getD (i - 1) 0 < l.getD i 0)
instance (l : List Int) (k : Nat) : Decidable (pre l k) := by unfold pre; infer_instance
/-- The ports are right. -/
def portsB (l : List Int) : Bool := decide (l.length ≤ 8 ∧ pre l l.length)

theorem portsB_long {l : List Int} (h : 8 < l.length) : portsB l = false := by
  unfold portsB; rw [decide_eq_false]; omega
theorem portsB_yes {l : List Int} (h : l.length ≤ 8) (hp : pre l l.length) : portsB l = true := decide_eq_true ⟨h, hp⟩
theorem portsB_no {l : List Int} {k : Nat} (hk : k < l.length) (h : ¬ (1 ≤ l.getD k 0 ∧ l.getD k 0 ≤ 255 ∧ (0 < k → l.getD (k - 1) 0 < l.getD k 0))) : portsB l = false :=
  decide_eq_false fun hh => h (hh.2 k hk)
theorem pre_step {l : List Int} {k : Nat} (h : pre l k) (hk : 1 ≤ l.getD k 0 ∧ l.getD k 0 ≤ 255 ∧ (0 < k → l.getD (k - 1) 0 < l.getD k 0)) : pre l (k + 1) := by
  intro i hi
  by_cases e : i = k
  · subst e; exact hk
  · exact h i (by omega)
/-- The port ahead. -/
def last (l : List Int) (k : Nat) : Int := if k = 0 then 0 else l.getD (k - 1) 0

end Go.Proofs.Ytcbgnfjnjfaacaa.Ya
namespace Go.Proofs.Ytcbgnfjnjfaacaa.Yl
set_option maxRecDepth 8000
set_option linter.unusedSimpArgs false
open Go Go.RowKit
open Num Pl Hr Hh Pq Ht Yh Yj Yk Yb Yc Yd

theorem hid {p : Prop} (h : p) : Hid p := h
theorem upto_of {l : List Int} : ∀ j : Nat, (∀ i : Nat, i < j → Hg.fits i (l.getD i 0) = true) → Hg.upto l j = true
  | 0, _ => rfl
  | j + 1, h => Hg.upto_step (upto_of j fun i hi => h i (by omega)) (h j (by omega))
theorem headB_set {l : List Int} {F : Nat} {x : Int} (h : Hg.headB l = true) (hF : Hg.fits F x = true) : Hg.headB (l.set F x) = true := by
  have hl := head_len h
  unfold Hg.headB
  rw [List.length_set, hl]
  simp only [decide_true, Bool.true_and]
  refine upto_of 8 fun i hi => ?_
  rw [set_at (by omega)]
  split
  · next e => subst e; exact hF
  · exact Mq.head_at h hi

/-- The head behind the first k actions. -/
def nowK (l : List A3) (h : List Int) : Nat → List Int
  | 0 => h
  | k + 1 => next (nowK l h k) (l.getD k z3)
/-- What the first k actions send. -/
def sentK (hin : Int) (ports : List Int) (l : List A3) (h : List Int) : Nat → List (Int × List Int)
  | 0 => []
  | k + 1 => sentK hin ports l h k ++ goes hin ports (nowK l h (k + 1)) (l.getD k z3)
theorem act_set {x : A3} (hx : actB x = true) (h3 : x.1 = 3) : ∃ F : Nat, x.2.1 = F ∧ F < 8 ∧ Hg.fits F x.2.2 = true := by
  obtain ⟨x0, a, b⟩ := x
  simp only at h3
  subst h3
  rw [actB_set, Bool.and_eq_true] at hx
  have h1 := of_decide_eq_true hx.1
  refine ⟨a.toNat, ?_, ?_, ?_⟩
  · simp only; omega
  · omega
  · have : ((a.toNat : Nat) : Int) = a := by omega
    rw [this]; exact hx.2
theorem head_next {x : A3} {now : List Int} (hx : actB x = true) (h : Hg.headB now = true) : Hg.headB (next now x) = true := by
  unfold next
  split
  · next h3 =>
    obtain ⟨F, e, hF, hf⟩ := act_set hx h3
    rw [e]
    exact headB_set h hf
  · exact h
theorem head_nowK {l : List A3} {h : List Int} (hB : Hg.headB h = true) : ∀ k, pre l k → Hg.headB (nowK l h k) = true
  | 0, _ => hB
  | k + 1, hp => head_next (hp k (by omega)) (head_nowK hB k fun i hi => hp i (by omega))
theorem goes_len (hin : Int) (ports now : List Int) (x : A3) (h : ports.length ≤ 8) : (goes hin ports now x).length ≤ 8 := by
  unfold goes
  split
  · split <;> simp
  · split
    · rw [List.length_map]; exact Nat.le_trans (List.length_filter_le _ _) h
    · simp
theorem sentK_len (hin : Int) (ports : List Int) (l : List A3) (h : List Int) (hp : ports.length ≤ 8) : ∀ k, (sentK hin ports l h k).length ≤ 8 * k
  | 0 => by simp [sentK]
  | k + 1 => by
    have := sentK_len hin ports l h hp k
    have := goes_len hin ports (nowK l h (k + 1)) (l.getD k z3) hp
    simp only [sentK, List.length_append]; omega

end Go.Proofs.Ytcbgnfjnjfaacaa.Yl
namespace Go.Proofs.Ytcbgnfjnjfaacaa.Ym
set_option maxRecDepth 8000
set_option linter.unusedSimpArgs false
open Go Go.RowKit
open Num Pl Hr Hh Pq Ht Yh Yj Yk Yl Yb Yc Yd

theorem own_set {w : World} {g F : Nat} {l : List Int} {x : Int} (h : Own w g l) : Own (w.setCell ⟨g, F, none⟩ (.int .i64 x)) g (l.set F x) := by
  obtain ⟨⟨c, hb, hc⟩, hs⟩ := h
  refine ⟨⟨c.setIfInBounds F (.int .i64 x), ?_, fun i hi => ?_⟩, by simpa using hs⟩
  · simp [World.setCell, Array.getElem?_modify, hb]
  · have hi' : i < l.length := by simpa using hi
    rw [set_at hi', Array.getElem?_setIfInBounds]
    have hci := hc i hi'
    have hic : i < c.size := by
      rcases Nat.lt_or_ge i c.size with h | h
      · exact h
      · rw [Array.getElem?_eq_none h] at hci; cases hci
    by_cases e : i = F
    · subst e; simp [hic]
    · rw [if_neg (fun q => e q.symm), if_neg e]; exact hci
/-- What an action sends to the first j ports. -/
def sends (hin : Int) (x : A3) (ports now : List Int) (j : Nat) : List (Int × List Int) := ((ports.take j).filter (fun p => decide (p ≠ hin ∧ (x.1 = 2 ∨ x.1 = 1 ∧ x.2.1 = p)))).map (fun p => (p, now))
theorem sends_step (hin : Int) (x : A3) (ports now : List Int) (j : Nat) (hj : j < ports.length) : sends hin x ports now (j + 1) = sends hin x ports now j ++ (if ports.getD j 0 ≠ hin ∧ (x.1 = 2 ∨ x.1 = 1 ∧ x.2.1 = ports.getD j 0) then [(ports.getD j 0, now)] else []) := by
  unfold sends
  rw [List.take_succ_eq_append_getElem hj, List.filter_append, List.map_append]
  have e : ports.getD j 0 = ports[j] := by simp [List.getD, hj]
  rw [e]
  by_cases h : ports[j] ≠ hin ∧ (x.1 = 2 ∨ x.1 = 1 ∧ x.2.1 = ports[j])
  · rw [if_pos h]; simp [h]
  · rw [if_neg h]; simp [h]
theorem sends_len (hin : Int) (x : A3) (ports now : List Int) (j : Nat) : (sends hin x ports now j).length ≤ j := by
  unfold sends
  rw [List.length_map]
  exact Nat.le_trans (List.length_filter_le _ _) (by simp; omega)
theorem filter_one {l : List Int} {a : Int} (hd : l.Nodup) (q : Int → Bool) : l.filter (fun p => q p && decide (a = p)) = if a ∈ l ∧ q a = true then [a] else [] := by
  induction l with
  | nil => simp
  | cons b l ih =>
    have hb := List.nodup_cons.1 hd
    by_cases e : a = b
    · subst e
      have hno : l.filter (fun p => q p && decide (a = p)) = [] := by
        rw [ih hb.2, if_neg (fun h => hb.1 h.1)]
      by_cases hq : q a = true
      · simp [List.filter_cons, hq, hno]
      · simp [List.filter_cons, hq, hno]
    · rw [List.filter_cons, if_neg (by simp [e]), ih hb.2]
      simp [e]
theorem nodup_ports {ports : List Int} (h : Ya.portsB ports = true) : ports.Nodup := by
  have hp := (of_decide_eq_true h).2
  have rise : ∀ i j, i < j → j < ports.length → ports.getD i 0 < ports.getD j 0 := by
    intro i j hij hj
    induction j with
    | zero => omega
    | succ j ih =>
      have h1 := (hp (j + 1) hj).2.2 (by omega)
      rw [Nat.add_sub_cancel] at h1
      by_cases e : i = j
      · subst e; exact h1
      · have := ih (by omega) (by omega); omega
  rw [List.nodup_iff_pairwise_ne, List.pairwise_iff_getElem]
  intro i j hi hj hij
  have := rise i j hij hj
  simp [List.getD, hi, hj] at this
  omega
theorem sends_all {hin : Int} {x : A3} {ports now : List Int} (h : Ya.portsB ports = true) : sends hin x ports now ports.length = goes hin ports now x := by
  unfold sends goes
  rw [List.take_length]
  by_cases h1 : x.1 = 1
  · rw [if_pos h1]
    have e : (fun p => decide (p ≠ hin ∧ (x.1 = 2 ∨ x.1 = 1 ∧ x.2.1 = p))) = fun p => decide (p ≠ hin) && decide (x.2.1 = p) := by
      funext p
      rw [h1]
      simp
    rw [e, filter_one (nodup_ports h)]
    by_cases hm : x.2.1 ∈ ports ∧ x.2.1 ≠ hin
    · rw [if_pos hm, if_pos ⟨hm.1, by simpa using hm.2⟩]; rfl
    · rw [if_neg hm, if_neg (fun q => hm ⟨q.1, by simpa using q.2⟩)]; rfl
  · rw [if_neg h1]
    by_cases h2 : x.1 = 2
    · rw [if_pos h2]
      simp [h2]
    · rw [if_neg h2]
      simp [h1, h2]

end Go.Proofs.Ytcbgnfjnjfaacaa.Ym
namespace Go.Proofs.Ytcbgnfjnjfaacaa.Yn
set_option maxRecDepth 8000
set_option linter.unusedSimpArgs false
set_option linter.unusedVariables false
open Go Go.RowKit
open Num Pl Hr Hh Pq Ht Yh Yj Yk Yl Ym Yb Yc Yd

theorem own7 {w : World} {o : Obj} {g : Nat} {l : List Int} (h : Own w g l) : Own (w.alloc o) g l := h.below (below_alloc1 _ _)

end Go.Proofs.Ytcbgnfjnjfaacaa.Yn
namespace Go.Proofs.Ytcbgnfjnjfaacaa.Yo
set_option maxRecDepth 8000
set_option linter.unusedSimpArgs false
set_option linter.unusedVariables false
open Go Go.RowKit
open Num Pl Hr Hh Pq Ht Yh Yj Yk Yl Ym Yb Yc Yd

def e0 : E := ⟨0, [], 0, 0⟩
theorem flat_at0 (Q : List E) (i : Nat) (hi : i < Q.length) : (Yh.flat Q)[i * 2]? = some (.int .i64 (Q.getD i e0).p) := by
  induction Q generalizing i with
  | nil => simp at hi
  | cons e Q ih =>
    cases i with
    | zero => simp [Yh.flat, E.cells]
    | succ i =>
      have := ih i (by simpa using hi)
      simp only [Yh.flat] at this
      have e1 : (i + 1) * 2 = i * 2 + 1 + 1 := by omega
      simp only [Yh.flat, List.flatMap_cons, E.cells, List.cons_append, List.nil_append, e1, List.getElem?_cons_succ, this]
      simp [List.getD]
theorem flat_at1 (Q : List E) (i : Nat) (hi : i < Q.length) : (Yh.flat Q)[i * 2 + 1]? = some (.slice (some ⟨(Q.getD i e0).g, 0, none⟩) (Q.getD i e0).l.length (Q.getD i e0).c) := by
  induction Q generalizing i with
  | nil => simp at hi
  | cons e Q ih =>
    cases i with
    | zero => simp [Yh.flat, E.cells]
    | succ i =>
      have := ih i (by simpa using hi)
      simp only [Yh.flat] at this
      have e1 : (i + 1) * 2 + 1 = (i * 2 + 1) + 1 + 1 := by omega
      simp only [Yh.flat, List.flatMap_cons, E.cells, List.cons_append, List.nil_append, e1, List.getElem?_cons_succ, this]
      simp [List.getD]
theorem get_mem {Q : List E} {i : Nat} (hi : i < Q.length) : Q.getD i e0 ∈ Q := by
  simp only [List.getD, List.getElem?_eq_getElem hi, Option.getD_some]
  exact List.getElem_mem hi

set_option maxHeartbeats 1000000 in
theorem eqHead_any (a a' : Option Addr) (b off cap b' off' cap' : Nat) (l m : List Int) (w : World) (h : Rd w a b off l) (h' : Rd w a' b' off' m) :
    Calls Try.prog 53 #[.agg #[.slice a l.length cap], .agg #[.slice a' m.length cap']] w fun e w' => e = .returned (.bool (decide (l = m))) ∧ Below w.heap.size w w' := by
  have B := Rw.next (below_alloc1 w (.cells #[.slice a l.length cap] 27)) (below_alloc1 _ (.cells #[.slice a' m.length cap'] 27))
  have hr := h.below B
  have hr' := h'.below B
  cases hR : decide (l = m)
  · have HR : Hid (decide (l = m) = false) := hR
    clear hR
    go_enter Try.func53, Try.ntmps53
    go_wp2_with (go_at_call 56; refine (eqIntS_any _ _ _ _ _ _ _ _ _ _ _ hr hr').mono ?_; rw [HR.out]; rintro e w' ⟨rfl, hb⟩)
    go_ret
    exact ⟨rfl, Rw.next B hb⟩
  · have HR : Hid (decide (l = m) = true) := hR
    clear hR
    go_enter Try.func53, Try.ntmps53
    go_wp2_with (go_at_call 56; refine (eqIntS_any _ _ _ _ _ _ _ _ _ _ _ hr hr').mono ?_; rw [HR.out]; rintro e w' ⟨rfl, hb⟩)
    go_ret
    exact ⟨rfl, Rw.next B hb⟩

theorem said_at (Q : List E) (i : Nat) (hi : i < Q.length) : (said Q).getD i (0, []) = ((Q.getD i e0).p, (Q.getD i e0).l) := by
  simp [said, List.getD, hi]
theorem said_ext {Q Q' : List E} (hl : Q.length = Q'.length) (h : ∀ i, i < Q.length → ((Q.getD i e0).p, (Q.getD i e0).l) = ((Q'.getD i e0).p, (Q'.getD i e0).l)) : said Q = said Q' := by
  refine List.ext_getElem (by rw [said_len, said_len, hl]) fun i h1 h2 => ?_
  rw [said_len] at h1 h2
  have := h i h1
  rw [← said_at Q i h1, ← said_at Q' i h2] at this
  have g1 : i < (said Q).length := by rw [said_len]; exact h1
  have g2 : i < (said Q').length := by rw [said_len]; exact h2
  simpa [List.getD, g1, g2] using this
theorem said_ne {Q Q' : List E} {i : Nat} (hi : i < Q.length) (hi' : i < Q'.length) (h : ¬ ((Q.getD i e0).p, (Q.getD i e0).l) = ((Q'.getD i e0).p, (Q'.getD i e0).l)) : decide (said Q = said Q') = false := by
  refine decide_eq_false fun e => h ?_
  rw [← said_at Q i hi, ← said_at Q' i hi', e]

end Go.Proofs.Ytcbgnfjnjfaacaa.Yo
namespace Go.Proofs.Ytcbgnfjnjfaacaa.Yp
set_option maxRecDepth 8000
set_option linter.unusedSimpArgs false
set_option linter.unusedVariables false
open Go Go.RowKit
open Num Pl Hr Hh Pq Ht Yh Yj Yk Yl Ym Yb Yc Yd Yo

set_option maxHeartbeats 2000000 in
theorem markActS_any (k0 : Int) (h0 : 0 ≤ k0) (h1 : k0 ≤ 1000000000000) (g cap : Nat) (l : List A3) (w : World) (h : Yb.Mine w g l) :
    Calls Try.prog 112 #[.slice (some ⟨g, 0, none⟩) l.length cap, .int .i64 k0] w fun e w' => e = .returned (.int .i64 (k0 + 3 * (l.length : Int))) ∧ Mk.Only g w w' := by
  obtain ⟨hrow, hs⟩ := h
  obtain ⟨n, hn⟩ : ∃ n, n = l.length := ⟨_, rfl⟩
  rw [← hn] at hrow hs ⊢
  have HR : Hid (∃ f, w.rowIs g 147 (n * 3) f) := ⟨_, hrow⟩
  clear hrow hn
  go_enter Try.func112, Try.ntmps112
  go_wp2
  go_loopw [1, 5] (fun q i wr => ∃ k : Nat, k ≤ n ∧ i = .int .i64 k ∧ q = .int .i64 (k0 + 3 * (k : Int)) ∧ Mk.Only g w wr ∧ ∃ f, wr.rowIs g 147 (n * 3) f) (fun _ i _ => n - (intOf i).toNat)
  case atStart => exact ⟨0, Nat.zero_le _, rfl, by simp, Mk.Only.refl _ _, HR.out⟩
  case round =>
    obtain ⟨k, hk, rfl, rfl, hon, f, hrow⟩ := hrel
    by_cases hlt : k < n
    · have hkz : (k : Int) < (n : Int) := by omega
      have g0 := hrow.cell (i := k * 3) (by omega)
      have g1 := hrow.cell (i := k * 3 + 1) (by omega)
      have g2 := hrow.cell (i := k * 3 + 2) (by omega)
      have f0 := hrow.frozen (k * 3)
      have f1 := hrow.frozen (k * 3 + 1)
      have f2 := hrow.frozen (k * 3 + 2)
      clear HR
      go_wp2
      go_roundw
      case rel => exact ⟨k + 1, by omega, by go_num, by simp only [Value.int.injEq, true_and]; omega, ((hon.set _).set _).set _, _, ((hrow.set _ _).set _ _).set _ _⟩
      case measure => simp [intOf]; omega
    · have he : k = n := by omega
      subst he
      go_wp2
      go_ret
      exact ⟨rfl, hon⟩

/-- The blocks lie apart. -/
structure Ap (B g : Nat) (Q : List E) : Prop where
  far : ∀ i, i < Q.length → (Q.getD i e0).g ≠ g
  diff : ∀ i k, i < Q.length → k < Q.length → i ≠ k → (Q.getD i e0).g ≠ (Q.getD k e0).g
  lo : 0 < Q.length → B ≤ g
  low : ∀ i, i < Q.length → B ≤ (Q.getD i e0).g
  len : ∀ i, i < Q.length → (Q.getD i e0).l.length = 8

end Go.Proofs.Ytcbgnfjnjfaacaa.Yp
namespace Go.Proofs.Ytcbgnfjnjfaacaa.Yq
set_option maxRecDepth 8000
open Go Go.RowKit
open Num Pl Hr Hh Pq Ht Yh Yj Yk Yl Ym Yn Yb Yc Yd Yo Yp

theorem mineA_only {w w' : World} {b g : Nat} {l : List A3} (h : Yb.Mine w b l) (ho : Mk.Only g w w') (hg : b ≠ g) : Yb.Mine w' b l := ⟨h.row.of_block (ho.block b h.row.lt (by simpa using hg)), h.size⟩
theorem mine_only {w w' : World} {b g : Nat} {l : List Int} (h : Hr.Mine w b l) (ho : Mk.Only g w w') (hg : b ≠ g) : Hr.Mine w' b l := ⟨h.row.of_block (ho.block b h.row.lt (by simpa using hg)), h.size⟩
theorem said_le {Q : List E} {L : List (Int × List Int)} (h : said Q = L) (hL : L.length ≤ 96) : Q.length ≤ 4096 := by
  have := congrArg List.length h
  rw [said_len] at this
  omega

end Go.Proofs.Ytcbgnfjnjfaacaa.Yq
namespace Go.Proofs.Ytcbgnfjnjfaacaa.Dr
open Go.RowKit
open Num Rw Mk Un Put

/-- A cursor at block g over the bytes l of the slice at a. -/
structure Cur (w : World) (g : Nat) (a : Option Addr) (b off cap : Nat) (l : List Int) : Prop where
  blk : ∃ i h : Int, w.heap[g]? = some (.cells #[.slice a l.length cap, .int .i64 i, .int .i64 h] 138 (0, 0)) ∧ 0 ≤ i ∧ i ≤ (l.length : Int)
  rd : Rd w a b off l
  ne : l.length = 0 ∨ b ≠ g

theorem three0 {w : World} {g : Nat} {x y z : Value} {t : TypeId} (h : w.heap[g]? = some (.cells #[x, y, z] t (0, 0))) : w.cell? ⟨g, 0, none⟩ = some x := by simp [World.cell?, h]
theorem three1 {w : World} {g : Nat} {x y z : Value} {t : TypeId} (h : w.heap[g]? = some (.cells #[x, y, z] t (0, 0))) : w.cell? ⟨g, 1, none⟩ = some y := by simp [World.cell?, h]
theorem three2 {w : World} {g : Nat} {x y z : Value} {t : TypeId} (h : w.heap[g]? = some (.cells #[x, y, z] t (0, 0))) : w.cell? ⟨g, 2, none⟩ = some z := by simp [World.cell?, h]
theorem threef {w : World} {g : Nat} {x y z : Value} {t : TypeId} (h : w.heap[g]? = some (.cells #[x, y, z] t (0, 0))) (o : Nat) : w.frozen? ⟨g, o, none⟩ = false := by simp [World.frozen?, h]
theorem three_set {w : World} {g o : Nat} {c : Array Value} {t : TypeId} (h : w.heap[g]? = some (.cells c t (0, 0))) (u : Value) : (w.setCell ⟨g, o, none⟩ u).heap[g]? = some (.cells (c.setIfInBounds o u) t (0, 0)) := by
  simp [World.setCell, Array.getElem?_modify, h]

theorem and255 (y : Int) : 0 ≤ bits .and .i64 y 255 ∧ bits .and .i64 y 255 ≤ 255 := by
  have hle : (BitVec.ofInt 64 y &&& BitVec.ofInt 64 255).toNat ≤ 255 := by
    rw [BitVec.toNat_and]
    exact Nat.le_trans Nat.and_le_right (by decide)
  have e : bits .and .i64 y 255 = IntKind.i64.wrap ((BitVec.ofInt 64 y &&& BitVec.ofInt 64 255).toNat : Int) := rfl
  rw [e, Get.wraps_i64 _ (by omega) (by omega)]
  omega

theorem only_drewN {g : Nat} {w w' : World} (h : Only g w w') (n : Nat) : Only g w (w'.drewN n) := ⟨h.os, h.tape, h.output, h.size, h.block⟩
theorem only_trans {g : Nat} {w w1 w2 : World} (h : Only g w w1) (k : Only g w1 w2) : Only g w w2 :=
  ⟨k.os.trans h.os, k.tape.trans h.tape, k.output.trans h.output, Nat.le_trans h.size k.size, fun q hq hne => (k.block q (Nat.lt_of_lt_of_le hq h.size) hne).trans (h.block q hq hne)⟩
theorem rd_drewN {w : World} {a : Option Addr} {b off : Nat} {l : List Int} (h : Rd w a b off l) (n : Nat) : Rd (w.drewN n) a b off l := ⟨h.head, h.cell, h.size, h.byt⟩

set_option maxHeartbeats 2000000 in
theorem byte_any (g : Nat) (a : Option Addr) (b off cap : Nat) (l : List Int) (w : World) (h : Cur w g a b off cap l) :
    Calls Try.prog 120 #[.pointer (some ⟨g, 0, none⟩)] w fun e w' => ∃ x : Int, e = .returned (.int .i64 x) ∧ 0 ≤ x ∧ x ≤ 255 ∧ Cur w' g a b off cap l ∧ Only g w w' := by
  obtain ⟨⟨i, hh, hblk, hi0, hil⟩, hrd, hne⟩ := h
  have c0 := three0 hblk
  have c1 := three1 hblk
  have c2 := three2 hblk
  have f1 := threef hblk 1
  have f2 := threef hblk 2
  have hs := hrd.size
  by_cases hlt : i < (l.length : Int)
  · obtain ⟨k, rfl⟩ : ∃ k : Nat, i = k := ⟨i.toNat, by omega⟩
    have hkl : k < l.length := by omega
    have hb := hrd.head (by omega)
    subst hb
    have g0 := hrd.cell k hkl
    have hbg : b ≠ g := by omega
    go_enter Try.func120, Try.ntmps120
    go_wp2
    generalize wrap64 (wrap64 (hh * 6364136223846793005) + 1442695040888963407) = h1
    have hb1 := three_set (o := 2) hblk (.int .i64 h1)
    simp at hb1
    have ho1 : Only g w (w.setCell ⟨g, 2, none⟩ (.int .i64 h1)) := (Only.refl g w).set _
    have hrd1 := rd_only ho1 hrd hne
    clear hblk c0 c1 c2 f1 f2 g0 hrd
    generalize w.setCell ⟨g, 2, none⟩ (.int .i64 h1) = w1 at *
    have c0 := three0 hb1
    have c1 := three1 hb1
    have c2 := three2 hb1
    have f1 := threef hb1 1
    have g0 := hrd1.cell k hkl
    go_quiet (fail)
    go_wp2
    go_quiet (fail)
    go_wp2
    go_quiet (fail)
    go_wp2
    go_ret
    exact ⟨_, rfl, (and255 _).1, (and255 _).2, ⟨⟨(k : Int) + 1, h1, by simpa using three_set (w := w1.drewN _) (o := 1) hb1 (.int .i64 ((k : Int) + 1)), by omega, by omega⟩, rd_only ((Only.refl g (w1.drewN _)).set _) (rd_drewN hrd1 _) hne, hne⟩, (only_drewN ho1 _).set _⟩
  · go_enter Try.func120, Try.ntmps120
    go_wp2
    generalize wrap64 (wrap64 (hh * 6364136223846793005) + 1442695040888963407) = h1
    have hb1 := three_set (o := 2) hblk (.int .i64 h1)
    simp at hb1
    have ho1 : Only g w (w.setCell ⟨g, 2, none⟩ (.int .i64 h1)) := (Only.refl g w).set _
    have hrd1 := rd_only ho1 hrd hne
    clear hblk c0 c1 c2 f1 f2 hrd
    generalize w.setCell ⟨g, 2, none⟩ (.int .i64 h1) = w1 at *
    have c0 := three0 hb1
    have c1 := three1 hb1
    have c2 := three2 hb1
    go_quiet (fail)
    go_wp2
    go_quiet (fail)
    go_wp2
    go_ret
    exact ⟨_, rfl, (and255 _).1, (and255 _).2, ⟨⟨i, h1, hb1, by omega, by omega⟩, rd_drewN (rd_drewN hrd1 _) _, hne⟩, only_drewN (only_drewN ho1 _) _⟩

/-- A number below n, n above 0. -/
theorem below_any (g : Nat) (a : Option Addr) (b off cap : Nat) (l : List Int) (n : Int) (w : World) (h : Cur w g a b off cap l) (hn : 1 ≤ n) (hn6 : n ≤ 4294967296) :
    Calls Try.prog 63 #[.pointer (some ⟨g, 0, none⟩), .int .i64 n] w fun e w' => ∃ x : Int, e = .returned (.int .i64 x) ∧ 0 ≤ x ∧ x < n ∧ Cur w' g a b off cap l ∧ Only g w w' := by
  have h0 : ¬ n ≤ 0 := by omega
  by_cases hs : n ≤ 256
  · go_enter Try.func63, Try.ntmps63
    go_wp2_with (go_at_call 120; refine (byte_any _ _ _ _ _ _ _ h).mono ?_; rintro e w1 ⟨x, rfl, x0, x1, hc1, ho1⟩)
    go_ret
    exact ⟨_, rfl, Int.emod_nonneg _ (by omega), Int.emod_lt_of_pos _ (by omega), hc1, ho1⟩
  · go_enter Try.func63, Try.ntmps63
    go_wp2_with (go_at_call 120; refine (byte_any _ _ _ _ _ _ _ h).mono ?_; rintro e w1 ⟨x, rfl, x0, x1, hc1, ho1⟩)
    go_wp2_with (go_at_call 120; refine (byte_any _ _ _ _ _ _ _ hc1).mono ?_; rintro e w2 ⟨y, rfl, y0, y1, hc2, ho2⟩)
    go_wp2_with (go_at_call 120; refine (byte_any _ _ _ _ _ _ _ hc2).mono ?_; rintro e w3 ⟨z, rfl, z0, z1, hc3, ho3⟩)
    go_wp2_with (go_at_call 120; refine (byte_any _ _ _ _ _ _ _ hc3).mono ?_; rintro e w4 ⟨v, rfl, v0, v1, hc4, ho4⟩)
    go_ret
    exact ⟨_, rfl, Int.emod_nonneg _ (by omega), Int.emod_lt_of_pos _ (by omega), hc4, only_trans (only_trans (only_trans ho1 ho2) ho3) ho4⟩

theorem powI (x : Int) (w : World) (h0 : 0 ≤ x) (h6 : x ≤ 6) :
    Calls Try.prog 118 #[.int .i64 x] w fun e w' => e = .returned (.int .i64 (pw x.toNat)) ∧ w' = w := by
  obtain ⟨k, rfl⟩ : ∃ k : Nat, x = k := ⟨x.toNat, by omega⟩
  simpa using pow_any k (by omega) w

end Go.Proofs.Ytcbgnfjnjfaacaa.Dr
namespace Go.Proofs.Ytcbgnfjnjfaacaa.Dr
open Go.RowKit
open Num Rw Mk Un Put

theorem cur_new {w : World} {a : Option Addr} {b off cap : Nat} {l : List Int} (h : Rd w a b off l) (x : Int) : Cur (w.alloc (.cells #[.slice a l.length cap, .int .i64 0, .int .i64 x] 138)) w.heap.size a b off cap l :=
  ⟨⟨0, x, heap_alloc_new _ _, Int.le_refl _, by omega⟩, h.below ((Below.refl _ _).alloc (Nat.le_refl _) _), by
    rcases Nat.eq_zero_or_pos l.length with h0 | h0
    · exact .inl h0
    · have := World.block_lt_of_cell? _ _ (h.cell 0 h0); simp at this; exact .inr (by omega)⟩

/-- Where the bytes lie that are read. -/
theorem rd_lt {w : World} {a : Option Addr} {b off : Nat} {l : List Int} (h : Rd w a b off l) : l.length = 0 ∨ b < w.heap.size := by
  rcases Nat.eq_zero_or_pos l.length with h0 | h0
  · exact .inl h0
  · exact .inr (World.block_lt_of_cell? _ _ (h.cell 0 h0))
theorem cur_lt {w : World} {g : Nat} {a : Option Addr} {b off cap : Nat} {l : List Int} (h : Cur w g a b off cap l) : g < w.heap.size := by
  obtain ⟨i, x, hb, _⟩ := h.blk
  exact lt_of_block hb

/-- A cursor is kept where the blocks below B are, and it and its bytes lie below B. -/
theorem cur_keep {w w' : World} {B g : Nat} {a : Option Addr} {b off cap : Nat} {l : List Int} (h : Cur w g a b off cap l) (hk : ∀ k, k < B → w'.heap[k]? = w.heap[k]?) (hg : g < B) (hb : l.length = 0 ∨ b < B) : Cur w' g a b off cap l := by
  obtain ⟨⟨i, x, hblk, h1, h2⟩, hrd, hne⟩ := h
  refine ⟨⟨i, x, (hk g hg).trans hblk, h1, h2⟩, ⟨hrd.head, fun j hj => ?_, hrd.size, hrd.byt⟩, hne⟩
  have hb' : b < B := by omega
  exact (World.cell?_of_block (w := w) (hk b hb')).trans (hrd.cell j hj)

theorem hasI_only {w w' : World} {B g : Nat} {v : Value} {l : List Int} (h : HasI w B v l) (ho : Only g w w') (hg : g < B) : HasI w' B v l := by
  refine ⟨h.1.kept ho ?_, h.2⟩
  cases hv : v.ownBlock with
  | none => exact .inl rfl
  | some k => exact .inr (fun e => by have := (h.1.lt k hv).1; injection e with e; omega)

theorem only_alloc {g : Nat} {w w' : World} (h : Only g w w') (o : Obj) : Only g w (w'.alloc o) :=
  ⟨h.os, h.tape, h.output, by have := h.size; simp; omega, fun k hk hne => (Below.heap_alloc w' o k (Nat.lt_of_lt_of_le hk h.size)).trans (h.block k hk hne)⟩
theorem only_grown {g : Nat} {w w1 w2 : World} {row : Option Nat} (h : Only g w w1) (hg : w1.grownBy w2 row) (hr : ∀ k, row = some k → w.heap.size ≤ k) : Only g w w2 :=
  ⟨hg.os.trans h.os, hg.tape.trans h.tape, hg.output.trans h.output, Nat.le_trans h.size hg.size, fun k hk hne => (hg.block k (Nat.lt_of_lt_of_le hk h.size) (fun e => by have := hr k e.symm; omega)).trans (h.block k hk hne)⟩
theorem hasI_app {wr w1 : World} {B : Nat} {v v' : Value} {l : List Int} {x : Int} (_h : HasI wr B v l)
    (h' : w1.ownsRow B 5 1 v' (l.length + 1) (l.map (Value.int .u8) ++ [.int .u8 x])) (hn : v' = .slice none 0 0 ↔ v = .slice none 0 0 ∧ 1 = 0) : HasI w1 B v' (l ++ [x]) := by
  refine ⟨by simpa using h', fun e => ?_⟩
  have := hn.1 e; simp at this

set_option maxHeartbeats 2000000 in
theorem new_any (a : Option Addr) (b off cap : Nat) (l : List Int) (w : World) (h : Rd w a b off l) :
    Calls Try.prog 59 #[.slice a l.length cap] w fun e w' => e = .returned (.pointer (some ⟨w.heap.size, 0, none⟩)) ∧ Cur w' w.heap.size a b off cap l ∧ Below w.heap.size w w' := by
  have hs := h.size
  have hy := h.byt
  have hh := h.head
  have hc := h.cell
  go_enter Try.func59, Try.ntmps59
  go_wp2
  go_loop [3, 4] (fun t i => ∃ k : Nat, k ≤ l.length ∧ i = .int .i64 k ∧ ∃ x : Int, t = .int .i64 x) (fun _ i => l.length - (intOf i).toNat)
  case atStart => exact ⟨0, Nat.zero_le _, rfl, _, rfl⟩
  case round =>
    obtain ⟨k, hk, rfl, x, rfl⟩ := hrel
    by_cases hlt : k < l.length
    · have hkz : (k : Int) < (l.length : Int) := by omega
      by_cases h4 : (k : Int) < 4000
      · obtain rfl := hh (by omega)
        have g0 := hc k hlt
        clear hc hy hh
        go_wp2
        go_round
        case rel => exact ⟨k + 1, by omega, by go_num, _, rfl⟩
        case measure => simp [intOf]; omega
      · clear hc hy hh
        go_wp2
        go_ret
        exact ⟨rfl, cur_new h _, (Below.refl _ _).alloc (Nat.le_refl _) _⟩
    · have hkz : ¬ (k : Int) < (l.length : Int) := by omega
      clear hc hy hh
      go_wp2
      go_ret
      exact ⟨rfl, cur_new h _, (Below.refl _ _).alloc (Nat.le_refl _) _⟩


theorem byt_zeros (n : Nat) : Byt (List.replicate n 0) := fun x hx => by have := List.eq_of_mem_replicate hx; omega
theorem mine_made (w : World) (n : Nat) (h : n ≤ 4194304) : Mine (w.alloc (.cells (madeCells #[.int .u8 0] n) 5)) w.heap.size (List.replicate n 0) := by
  refine ⟨?_, by simpa using h, byt_zeros n⟩
  rw [List.length_replicate]
  refine (World.rowIs_made w (.int .u8 0) n 5).congr fun i hi => ?_
  simp [List.getD, hi]

theorem ret3 {gb n c m : Nat} {x y : Int} (h : n = m) : Ending.returned (.tuple #[.slice (some ⟨gb, 0, none⟩) n c, .int .i64 x, .int .i64 y]) = .returned (.tuple #[.slice (some ⟨gb, 0, none⟩) m c, .int .i64 x, .int .i64 y]) := by rw [h]

end Go.Proofs.Ytcbgnfjnjfaacaa.Dr
namespace Go.Proofs.Ytcbgnfjnjfaacaa.Tg
open Go Go.RowKit
open Num Rw Mk Un Put Pl App Pf

/-- A packet's cells. -/
theorem wt_set {w : World} {a : Option Addr} {g : Nat} {l : List Int} {ad : Addr} {u : Value} (h : Wt w a g l) (hne : ¬ ad.block = g) : Wt (w.setCell ad u) a g l :=
  ⟨h.head, fun i hi => (World.cell?_setCell_other _ _ _ _ (by intro q; apply hne; rw [q])).trans (h.cell i hi), fun i hi => by simpa using h.free i hi, h.size, h.byt⟩

/-- What 'Tagged' answers. -/
def Yes (w : World) (d s t y : Int) (l : List Int) (e : Ending) (w' : World) : Prop :=
  ∃ a g cap, e = .returned (.tuple #[.agg #[.int .i64 d, .int .i64 s, .int .i64 t, .int .i64 y, .slice a l.length cap], .bool true]) ∧ Wt w' a g l ∧ w.heap.size ≤ g ∧ (a = none → cap = 0) ∧ Below w.heap.size w w'
def No (w : World) (e : Ending) (w' : World) : Prop :=
  e = .returned (.tuple #[.agg #[.int .i64 0, .int .i64 0, .int .i64 0, .int .i64 0, .slice none 0 0], .bool false]) ∧ Below w.heap.size w w'

end Go.Proofs.Ytcbgnfjnjfaacaa.Tg
namespace Go.Proofs.Ytcbgnfjnjfaacaa.Dr
open Go Go.RowKit
open Num Rw Mk Un Put Pl Pf

theorem cur_set {w : World} {B g p o : Nat} {a : Option Addr} {b off cap : Nat} {l : List Int} {u : Value} (h : Cur w g a b off cap l) (hp : B ≤ p) (hg : g < B) (hb : l.length = 0 ∨ b < B) : Cur (w.setCell ⟨p, o, none⟩ u) g a b off cap l :=
  cur_keep (B := B) h (fun k hk => Below.heap_setCell w ⟨p, o, none⟩ u k (fun e => by simp at e; omega)) hg hb
theorem cur_alloc {w : World} {g : Nat} {a : Option Addr} {b off cap : Nat} {l : List Int} (h : Cur w g a b off cap l) (o : Obj) : Cur (w.alloc o) g a b off cap l :=
  cur_keep (B := w.heap.size) h (fun k hk => Below.heap_alloc w o k hk) (cur_lt h) (rd_lt h.rd)
theorem only_set {g p o : Nat} {w w1 : World} {u : Value} (h : Only g w w1) (hp : w.heap.size ≤ p) : Only g w (w1.setCell ⟨p, o, none⟩ u) :=
  ⟨h.os, h.tape, h.output, by simpa using h.size, fun k hk hne => (Below.heap_setCell w1 _ u k (fun e => by simp at e; omega)).trans (h.block k hk hne)⟩
theorem k_of {g k : Nat} {w w' : World} (h : Only g w w') (hk : k < w.heap.size) (hne : k ≠ g) : w'.heap[k]? = w.heap[k]? := h.block k hk (by simpa using hne)
theorem wt_of {g : Nat} {w w' : World} {a : Option Addr} {b : Nat} {l : List Int} (h : Only g w w') (hr : Wt w a b l) (hne : b ≠ g) : Wt w' a b l := wt_only h hr (.inr hne)

set_option maxHeartbeats 1000000 in
theorem num6_any (g : Nat) (a : Option Addr) (b off cap : Nat) (l : List Int) (w : World) (h : Cur w g a b off cap l) :
    Calls Try.prog 157 #[.pointer (some ⟨g, 0, none⟩)] w fun e w' => ∃ x : Int, e = .returned (.int .i64 x) ∧ 0 ≤ x ∧ x ≤ 281474976710655 ∧ Cur w' g a b off cap l ∧ Only g w w' := by
  go_enter Try.func157, Try.ntmps157
  go_wp2_with (first | (go_at_call 63; clear tok1) | (go_at_call 63; refine (below_any _ _ _ _ _ _ _ _ h (by omega) (by omega)).mono ?_; rintro e w1 ⟨x, rfl, x0, x1, hC, hO⟩; clear h))
  · go_wp2_with (go_at_call 63; refine (below_any _ _ _ _ _ _ _ _ hC (by omega) (by omega)).mono ?_; rintro e w2 ⟨y, rfl, y0, y1, hC2, hO2⟩)
    go_ret
    exact ⟨_, rfl, by omega, by omega, hC2, only_trans hO hO2⟩
  · go_ret
    exact ⟨_, rfl, by omega, by omega, hC, hO⟩
  · go_wp2_with (go_at_call 63; refine (below_any _ _ _ _ _ _ _ _ hC (by omega) (by omega)).mono ?_; rintro e w2 ⟨y, rfl, y0, y1, hC2, hO2⟩)
    go_ret
    exact ⟨_, rfl, by omega, by omega, hC2, only_trans hO hO2⟩


theorem set4 {w : World} {g : Nat} {v0 v1 v2 v3 v4 u : Value} {t : TypeId} (h : w.heap[g]? = some (.cells #[v0, v1, v2, v3, v4] t (0, 0))) : (w.setCell ⟨g, 4, none⟩ u).heap[g]? = some (.cells #[v0, v1, v2, v3, u] t (0, 0)) := by simpa using three_set (o := 4) h u
theorem set3 {w : World} {g : Nat} {v0 v1 v2 v3 v4 u : Value} {t : TypeId} (h : w.heap[g]? = some (.cells #[v0, v1, v2, v3, v4] t (0, 0))) : (w.setCell ⟨g, 3, none⟩ u).heap[g]? = some (.cells #[v0, v1, v2, u, v4] t (0, 0)) := by simpa using three_set (o := 3) h u
theorem set2 {w : World} {g : Nat} {v0 v1 v2 v3 v4 u : Value} {t : TypeId} (h : w.heap[g]? = some (.cells #[v0, v1, v2, v3, v4] t (0, 0))) : (w.setCell ⟨g, 2, none⟩ u).heap[g]? = some (.cells #[v0, v1, u, v3, v4] t (0, 0)) := by simpa using three_set (o := 2) h u
theorem set1 {w : World} {g : Nat} {v0 v1 v2 v3 v4 u : Value} {t : TypeId} (h : w.heap[g]? = some (.cells #[v0, v1, v2, v3, v4] t (0, 0))) : (w.setCell ⟨g, 1, none⟩ u).heap[g]? = some (.cells #[v0, u, v2, v3, v4] t (0, 0)) := by simpa using three_set (o := 1) h u
theorem set0 {w : World} {g : Nat} {v0 v1 v2 v3 v4 u : Value} {t : TypeId} (h : w.heap[g]? = some (.cells #[v0, v1, v2, v3, v4] t (0, 0))) : (w.setCell ⟨g, 0, none⟩ u).heap[g]? = some (.cells #[u, v1, v2, v3, v4] t (0, 0)) := by simpa using three_set (o := 0) h u
theorem far {w : World} {g : Nat} {ad : Addr} {u : Value} (hne : ¬ ad.block = g) : (w.setCell ad u).heap[g]? = w.heap[g]? := Below.heap_setCell w ad u g (fun e => hne e.symm)
theorem wset {w : World} {a : Option Addr} {g : Nat} {l : List Int} {ad : Addr} {u : Value} (h : Wt w a g l) (hne : l.length = 0 ∨ ¬ ad.block = g) : Wt (w.setCell ad u) a g l := by
  rcases hne with h0 | h0
  · exact ⟨h.head, fun i hi => by omega, fun i hi => by omega, h.size, h.byt⟩
  · exact Tg.wt_set h h0
theorem wt_eq {w : World} {g g' : Nat} {l : List Int} (e : g = g') (h : Wt w (some ⟨g, 0, none⟩) g l) : Wt w (some ⟨g', 0, none⟩) g' l := by subst e; exact h
theorem size_set (w : World) (ad : Addr) (u : Value) : (w.setCell ad u).heap.size = w.heap.size := by simp

theorem two_at {w : World} {g : Nat} {x y : Int} {t : TypeId} (h : w.heap[g]? = some (.cells #[.int .i64 x, .int .i64 y] t (0, 0))) (i : Nat) (hi : i < 2) : ∃ V : Int, w.cell? ⟨g, i, none⟩ = some (.int .i64 V) ∧ (V = x ∨ V = y) := by
  match i, hi with
  | 0, _ => exact ⟨x, by simp [World.cell?, h], .inl rfl⟩
  | 1, _ => exact ⟨y, by simp [World.cell?, h], .inr rfl⟩

/-- The numbers of a drawn packet are right. -/
def Bnd (d s t : Int) : Prop := (0 ≤ d ∧ d ≤ 281474976710655) ∧ (0 ≤ s ∧ s ≤ 281474976710655) ∧ -1 ≤ t ∧ t ≤ 4094
/-- What a draw of a packet leaves. -/
def Drawn (w : World) (g : Nat) (a : Option Addr) (b off cap : Nat) (l : List Int) (e : Ending) (w' : World) : Prop :=
  ∃ (d s t y : Int) (gb cap' : Nat) (q : List Int), e = .returned (.agg #[.int .i64 d, .int .i64 s, .int .i64 t, .int .i64 y, .slice (some ⟨gb, 0, none⟩) q.length cap']) ∧ Bnd d s t ∧ Wt w' (some ⟨gb, 0, none⟩) gb q ∧ w.heap.size ≤ gb ∧ Cur w' g a b off cap l ∧ Only g w w'

end Go.Proofs.Ytcbgnfjnjfaacaa.Dr
namespace Go.Proofs.Ytcbgnfjnjfaacaa.Mr
set_option maxRecDepth 8000
open Go Go.RowKit
open Num Pl Hr Hh Hf Hg Pa Pm Po Pq Mi Bw Mo Mp
set_option linter.unusedSimpArgs false
set_option linter.unusedVariables false

theorem half_zero {w : World} {g : Nat} (h : Half w g 0 nul) : Mine w g (lst nul) := by
  refine Half.mine (World.rowIs.congr h (fun i hi => ?_))
  simp [cut, nul]
theorem mine_set2 {w : World} {g b k : Nat} {l : List Int} {u : Value} (h : Mine w g l) (hne : b ≠ g) : Mine (w.setCell ⟨b, k, none⟩ u) g l := h.set (by simpa using hne)

set_option maxHeartbeats 2000000 in
theorem allS_any (w : World) : Calls Try.prog 124 #[] w (ResM w (lst nul) (lst nul)) := by
  have hmk : ∀ w : World, (Instr.makeSlice 23 (.int .i64 8) (.int .i64 8)).run Try.prog w = .ok (.slice (some ⟨w.heap.size, 0, none⟩) 8 8) (w.alloc (.cells (madeCells #[.int .i64 0] 8) 3)) :=
    run_make_row' (P := Try.prog) 23 3 (.int .i64 0) 8 Try.underlying23 info3 rfl .i64 .i64 8 (by omega) (by omega)
  obtain ⟨W0, hW0⟩ : ∃ W0, W0 = w.alloc (.cells #[.slice none 0 0, .slice none 0 0] 25) := ⟨_, rfl⟩
  have B0 : Below w.heap.size w W0 := by subst hW0; exact below_alloc1 _ _
  have kR : W0.heap[w.heap.size]? = some (.cells #[.slice none 0 0, .slice none 0 0] 25 (0, 0)) := by subst hW0; exact at_new rfl
  have zR := (Array.getElem?_eq_some_iff.1 kR).1
  obtain ⟨r0, r1⟩ := two kR
  have fr := Bl.free kR
  clear kR
  go_enter Try.func124, Try.ntmps124
  go_wp2
  rw [← hW0]
  clear hW0
  go_region
  all_goals go_wp2
  · refine bodyPost_ret (v := .agg #[.slice (some ⟨W0.heap.size, 0, none⟩) 8 8, .slice (some ⟨W0.heap.size + 1, 0, none⟩) 8 8]) (by simp [results, Try.results124, go_sem, r0, r1, zR]) rfl ⟨_, W0.heap.size, _, _, W0.heap.size + 1, _, by rw [lst_len], mine_wt (half_zero (Half.drew ((Half.made nul (by simp)).old))), mine_wt (half_zero (Half.drew (Half.made nul (by simp)))), by omega, by omega, by omega, ?_⟩
    exact ((bset (bset B0 (Nat.le_refl _)) (Nat.le_refl _)).alloc (by simp; omega) _ |>.alloc (by simp; omega) _).drew
  · refine bodyPost_ret (v := .agg #[.slice (some ⟨W0.heap.size + 1, 0, none⟩) 8 8, .slice (some ⟨W0.heap.size, 0, none⟩) 8 8]) (by simp [results, Try.results124, go_sem, r0, r1, zR]) rfl ⟨_, W0.heap.size + 1, _, _, W0.heap.size, _, by rw [lst_len], mine_wt (half_zero (Half.drew (Half.made nul (by simp)))), mine_wt (half_zero (Half.drew ((Half.made nul (by simp)).old))), by omega, by omega, by omega, ?_⟩
    exact ((bset (bset B0 (Nat.le_refl _)) (Nat.le_refl _)).alloc (by simp; omega) _ |>.alloc (by simp; omega) _).drew

end Go.Proofs.Ytcbgnfjnjfaacaa.Mr
namespace Go.Proofs.Ytcbgnfjnjfaacaa.Mm
open Go Go.RowKit
open Num Pl Hr Hh Hf Hg Pa Pm Po Pq Mj
set_option linter.unusedSimpArgs false
set_option linter.unusedVariables false

theorem wt_drew {w : World} {a : Option Addr} {g : Nat} {l : List Int} (h : Wt w a g l) : Wt w.drew a g l := ⟨h.head, h.cell, h.free, h.size⟩
theorem cell_set1 {w : World} {a : Addr} {g i : Nat} {x : Value} {v : Option Value} (h : w.cell? a = v) (hne : a.block ≠ g) : (w.drew.setCell ⟨g, i, none⟩ x).cell? a = v := by
  rw [World.cell?_setCell_other _ _ _ _ (by intro q; exact hne (by rw [← q]))]
  exact h
theorem run_store3 {w : World} {g k : Nat} {u : Value} {v : Int} (hc : w.cell? ⟨g, k, none⟩ = some u) (hf : w.frozen? ⟨g, k, none⟩ = false) :
    (Instr.storeAt 3 (.pointer (some ⟨g, k, none⟩)) (.int .i64 v)).run Try.prog w = .ok () (w.setCell ⟨g, k, none⟩ (.int .i64 v)) := by
  simp [go_sem, hc, hf]
/-- A store of one integer into a row, in a region that draws its order. -/
theorem ready3 {md : Region.Mode} {ops : Array Oper} {Q : Exit → Act → World → Prop} {S : World → Prop} {fuel : Nat} {listed : Array Bool} {a : Act} {w : World} {i : Nat} {o : Oper} {rs : List Nat} (hi : ops[i]? = some o) (hgd : o.guard = none)
    (x y : Operand) (ho : o.op = .store 3 x y) (hd : o.dst = none) {g k : Nat} (hx : a.eval x = .pointer (some ⟨g, k, none⟩)) {v : Int} (hy : a.eval y = .int .i64 v) {u : Value} (hc : w.cell? ⟨g, k, none⟩ = some u) (hf : w.frozen? ⟨g, k, none⟩ = false)
    (hS : S (w.setCell ⟨g, k, none⟩ (.int .i64 v)))
    (hk : S (w.setCell ⟨g, k, none⟩ (.int .i64 v)) → wpAnyH Try.prog md ops Q S fuel (listed.setIfInBounds i true) (a.put none undef) (w.setCell ⟨g, k, none⟩ (.int .i64 v)))
    (hs : AllReadyH Try.prog md ops Q S fuel listed a w rs) : AllReadyH Try.prog md ops Q S fuel listed a w (i :: rs) :=
  AllReadyH.cons hi (fun K hK => by
    rw [if_pos (by simp only [Region.wanted, hgd])]
    unfold Oper.wp execOp
    simp only [ho, hx, hy, Sem.run_bind, Sem.run_pure, Result.andThen_ok, run_store3 hc hf]
    exact hK.out _ _ hS (fun hs' => by rw [hd]; exact hk hs')) hs
/-- One number more of a row that is filled. -/
theorem wt_up {w : World} {a : Option Addr} {g k : Nat} {v u : Nat → Int} (h : Wt w a g (lst (cut v u k))) (hk : k < 8) : Wt (w.setCell ⟨g, k, none⟩ (.int .i64 (v k))) a g (lst (cut v u (k + 1))) := by
  have hl : (lst (cut v u (k + 1))).length = (lst (cut v u k)).length := by rw [lst_len, lst_len]
  refine ⟨fun hp => h.head (by omega), fun i hi => ?_, fun i hi => ?_, by rw [lst_len]; omega⟩
  · rw [lst_len] at hi
    rw [lst_at _ hi]
    have hc := h.cell i (by rw [lst_len]; exact hi)
    rw [lst_at _ hi] at hc
    by_cases e : i = k
    · subst e
      rw [World.cell?_setCell_same _ _ _ hc]
      simp [cut]
    · rw [World.cell?_setCell_other _ _ _ _ (by intro q; injection q with q1 q2; exact e q2.symm), hc]
      have : (i < k + 1) = (i < k) := by rw [eq_iff_iff]; omega
      simp [cut, this]
  · rw [lst_len] at hi
    have := h.free i (by rw [lst_len]; exact hi)
    simpa using this

set_option maxRecDepth 8000 in
set_option maxHeartbeats 8000000 in
theorem meetS (b1 o1 c1 : Nat) (b2 o2 c2 : Nat) (b3 o3 c3 : Nat) (b4 o4 c4 : Nat) (V M V' M' : List Int) (w : World)
    (r1 : ∀ k, k < 8 → w.cell? ⟨b1, o1 + k, none⟩ = some (.int .i64 (V.getD k 0))) (r2 : ∀ k, k < 8 → w.cell? ⟨b2, o2 + k, none⟩ = some (.int .i64 (M.getD k 0))) (r3 : ∀ k, k < 8 → w.cell? ⟨b3, o3 + k, none⟩ = some (.int .i64 (V'.getD k 0))) (r4 : ∀ k, k < 8 → w.cell? ⟨b4, o4 + k, none⟩ = some (.int .i64 (M'.getD k 0)))
    (d1 : ∀ k, k < 8 → 0 ≤ V.getD k 0 ∧ V.getD k 0 < 281474976710656) (d2 : ∀ k, k < 8 → 0 ≤ M.getD k 0 ∧ M.getD k 0 < 281474976710656) (d3 : ∀ k, k < 8 → 0 ≤ V'.getD k 0 ∧ V'.getD k 0 < 281474976710656) (d4 : ∀ k, k < 8 → 0 ≤ M'.getD k 0 ∧ M'.getD k 0 < 281474976710656)
    (t0 : ∀ w1, Below w.heap.size w w1 → Calls Try.prog 62 #[.agg #[.slice (some ⟨b1, o1, none⟩) 8 c1, .slice (some ⟨b2, o2, none⟩) 8 c2]] w1 fun e w' => e = .returned (.bool true) ∧ Below w1.heap.size w1 w')
    (t1 : ∀ w1, Below w.heap.size w w1 → Calls Try.prog 62 #[.agg #[.slice (some ⟨b3, o3, none⟩) 8 c3, .slice (some ⟨b4, o4, none⟩) 8 c4]] w1 fun e w' => e = .returned (.bool true) ∧ Below w1.heap.size w1 w')
    (R : Bool) (hR : R = true ↔ ∀ f, f < 8 → ∀ i, i < Bw.fbN f → (Bw.bitI (M.getD f 0) i = 1 → Bw.bitI (M'.getD f 0) i = 1 → Bw.bitI (V.getD f 0) i = Bw.bitI (V'.getD f 0) i)) (nv nm : Nat → Int) (hnv : ∀ k, nv k = bits .or .i64 (V.getD k 0) (V'.getD k 0)) (hnm : ∀ k, nm k = bits .or .i64 (M.getD k 0) (M'.getD k 0)) (LV LM : List Int) (hy : R = true → LV = lst nv ∧ LM = lst nm) (hn : R = false → LV = [] ∧ LM = []) :
    Calls Try.prog 71 #[.agg #[.slice (some ⟨b1, o1, none⟩) 8 c1, .slice (some ⟨b2, o2, none⟩) 8 c2], .agg #[.slice (some ⟨b3, o3, none⟩) 8 c3, .slice (some ⟨b4, o4, none⟩) 8 c4]] w (ResMB w R LV LM) := by
  have R1 : Hid (∀ k, k < 8 → w.cell? ⟨b1, o1 + k, none⟩ = some (.int .i64 (V.getD k 0))) := r1
  have D1 : Hid (∀ k, k < 8 → 0 ≤ V.getD k 0 ∧ V.getD k 0 < 281474976710656) := d1
  have R2 : Hid (∀ k, k < 8 → w.cell? ⟨b2, o2 + k, none⟩ = some (.int .i64 (M.getD k 0))) := r2
  have D2 : Hid (∀ k, k < 8 → 0 ≤ M.getD k 0 ∧ M.getD k 0 < 281474976710656) := d2
  have R3 : Hid (∀ k, k < 8 → w.cell? ⟨b3, o3 + k, none⟩ = some (.int .i64 (V'.getD k 0))) := r3
  have D3 : Hid (∀ k, k < 8 → 0 ≤ V'.getD k 0 ∧ V'.getD k 0 < 281474976710656) := d3
  have R4 : Hid (∀ k, k < 8 → w.cell? ⟨b4, o4 + k, none⟩ = some (.int .i64 (M'.getD k 0))) := r4
  have D4 : Hid (∀ k, k < 8 → 0 ≤ M'.getD k 0 ∧ M'.getD k 0 < 281474976710656) := d4
  have T0 : Hid (∀ w1, Below w.heap.size w w1 → Calls Try.prog 62 #[.agg #[.slice (some ⟨b1, o1, none⟩) 8 c1, .slice (some ⟨b2, o2, none⟩) 8 c2]] w1 fun e w' => e = .returned (.bool true) ∧ Below w1.heap.size w1 w') := t0
  have T1 : Hid (∀ w1, Below w.heap.size w w1 → Calls Try.prog 62 #[.agg #[.slice (some ⟨b3, o3, none⟩) 8 c3, .slice (some ⟨b4, o4, none⟩) 8 c4]] w1 fun e w' => e = .returned (.bool true) ∧ Below w1.heap.size w1 w') := t1
  have HR : Hid (R = true ↔ ∀ f, f < 8 → ∀ i, i < Bw.fbN f → (Bw.bitI (M.getD f 0) i = 1 → Bw.bitI (M'.getD f 0) i = 1 → Bw.bitI (V.getD f 0) i = Bw.bitI (V'.getD f 0) i)) := hR
  have NV : Hid (∀ k, nv k = bits .or .i64 (V.getD k 0) (V'.getD k 0)) := hnv
  have NM : Hid (∀ k, nm k = bits .or .i64 (M.getD k 0) (M'.getD k 0)) := hnm
  have Y1 : Hid (R = true → LV = lst nv ∧ LM = lst nm) := hy
  have Y0 : Hid (R = false → LV = [] ∧ LM = []) := hn
  clear hR t0 t1 hnv hnm hy hn r1 d1 r2 d2 r3 d3 r4 d4
  obtain ⟨W0, hW0⟩ : ∃ W0, W0 = ((w.alloc (.cells #[.slice (some ⟨b1, o1, none⟩) 8 c1, .slice (some ⟨b2, o2, none⟩) 8 c2] 25)).alloc (.cells #[.slice (some ⟨b3, o3, none⟩) 8 c3, .slice (some ⟨b4, o4, none⟩) 8 c4] 25)).alloc (.cells #[.slice none 0 0, .slice none 0 0] 25) := ⟨_, rfl⟩
  have B : Below w.heap.size w W0 := by subst hW0; exact Rw.next (Mi.below2 _ _ _) (below_alloc1 _ _)
  have k0 : W0.heap[w.heap.size]? = some (.cells #[.slice (some ⟨b1, o1, none⟩) 8 c1, .slice (some ⟨b2, o2, none⟩) 8 c2] 25 (0, 0)) := by subst hW0; rw [at_old (by simp <;> omega), at_old (by simp), at_new rfl]
  have k1 : W0.heap[w.heap.size + 1]? = some (.cells #[.slice (some ⟨b3, o3, none⟩) 8 c3, .slice (some ⟨b4, o4, none⟩) 8 c4] 25 (0, 0)) := by subst hW0; rw [at_old (by simp), at_new (by simp)]
  have kR : W0.heap[w.heap.size + 1 + 1]? = some (.cells #[.slice none 0 0, .slice none 0 0] 25 (0, 0)) := by subst hW0; exact at_new (by simp)
  have tok1 : True := trivial
  go_enter Try.func71, Try.ntmps71
  go_wp2_with (first
    | (go_at_call 62; clear tok1; rw [← hW0]; refine (T0.out _ B).mono ?_; rintro e wa ⟨rfl, hb⟩; replace k0 := (hb.block _ (Array.getElem?_eq_some_iff.1 k0).1).trans k0; replace k1 := (hb.block _ (Array.getElem?_eq_some_iff.1 k1).1).trans k1; replace kR := (hb.block _ (Array.getElem?_eq_some_iff.1 kR).1).trans kR; obtain ⟨p00, p01⟩ := two k0; obtain ⟨p10, p11⟩ := two k1; replace B := Rw.next B hb; clear hb; have tok2 : True := trivial)
    | (go_at_call 62; clear tok2; refine (T1.out _ B).mono ?_; rintro e wb ⟨rfl, hb⟩; clear p00 p01 p10 p11; replace k0 := (hb.block _ (Array.getElem?_eq_some_iff.1 k0).1).trans k0; replace k1 := (hb.block _ (Array.getElem?_eq_some_iff.1 k1).1).trans k1; replace kR := (hb.block _ (Array.getElem?_eq_some_iff.1 kR).1).trans kR; obtain ⟨p00, p01⟩ := two k0; obtain ⟨p10, p11⟩ := two k1; replace B := Rw.next B hb; clear hb; have tok3 : True := trivial)
    | (go_at_call 124; clear tok3; refine (Mr.allS_any _).mono ?_; rintro e wc ⟨aV, gV, cV, aM, gM, cM, rfl, hV, hM, l1, l2, l3, hb⟩; have sb := hb.size; have zr3 := (Array.getElem?_eq_some_iff.1 kR).1; clear p00 p01 p10 p11; replace k0 := (hb.block _ (Array.getElem?_eq_some_iff.1 k0).1).trans k0; replace k1 := (hb.block _ (Array.getElem?_eq_some_iff.1 k1).1).trans k1; replace kR := (hb.block _ (Array.getElem?_eq_some_iff.1 kR).1).trans kR; replace B := Rw.next B hb; clear hb))
  clear hW0 T0 T1
  obtain rfl := hV.head (by rw [lst_len]; omega)
  obtain rfl := hM.head (by rw [lst_len]; omega)
  rw [lst_len]
  have z0 := (Array.getElem?_eq_some_iff.1 k0).1
  have z1 := (Array.getElem?_eq_some_iff.1 k1).1
  have zR := (Array.getElem?_eq_some_iff.1 kR).1
  have yV : gV < wc.heap.size := by have := Hr.wt_lt hV; rw [lst_len] at this; omega
  have yM : gM < wc.heap.size := by have := Hr.wt_lt hM; rw [lst_len] at this; omega
  have sz := B.size
  have kX : (wc.alloc (.cells #[.slice (some ⟨gV, 0, none⟩) 8 cV, .slice (some ⟨gM, 0, none⟩) 8 cM] 25)).heap[wc.heap.size]? = some (.cells #[.slice (some ⟨gV, 0, none⟩) 8 cV, .slice (some ⟨gM, 0, none⟩) 8 cM] 25 (0, 0)) := at_new rfl
  have BX : Below wc.heap.size wc (wc.alloc (.cells #[.slice (some ⟨gV, 0, none⟩) 8 cV, .slice (some ⟨gM, 0, none⟩) 8 cM] 25)) := below_alloc1 _ _
  replace k0 := (BX.block _ z0).trans k0
  replace k1 := (BX.block _ z1).trans k1
  replace kR := (BX.block _ zR).trans kR
  replace hV := hV.below BX
  replace hM := hM.below BX
  replace B := Rw.next B BX
  obtain ⟨X, hX⟩ : ∃ X, X = wc.heap.size := ⟨_, rfl⟩
  rw [← hX] at kX ⊢
  have HLT : Hid (∀ k, k < 8 → b1 < w.heap.size ∧ b2 < w.heap.size ∧ b3 < w.heap.size ∧ b4 < w.heap.size) := (fun k hk => ⟨World.block_lt_of_cell? _ _ (R1.out k hk), World.block_lt_of_cell? _ _ (R2.out k hk), World.block_lt_of_cell? _ _ (R3.out k hk), World.block_lt_of_cell? _ _ (R4.out k hk)⟩ : ∀ k, k < 8 → b1 < w.heap.size ∧ b2 < w.heap.size ∧ b3 < w.heap.size ∧ b4 < w.heap.size)
  have o1V : w.heap.size + 1 + 1 < gV := by omega
  have o1M : w.heap.size + 1 + 1 < gM := by omega
  have oXV : gV < X := by omega
  have oXM : gM < X := by omega
  have hV0 : Wt (wc.alloc (.cells #[.slice (some ⟨gV, 0, none⟩) 8 cV, .slice (some ⟨gM, 0, none⟩) 8 cM] 25)) (some ⟨gV, 0, none⟩) gV (lst (cut nv nul 0)) := hV
  have hM0 : Wt (wc.alloc (.cells #[.slice (some ⟨gV, 0, none⟩) 8 cV, .slice (some ⟨gM, 0, none⟩) 8 cM] 25)) (some ⟨gM, 0, none⟩) gM (lst (cut nm nul 0)) := hM
  clear hX z0 z1 zR yV yM sb sz zr3 l1 l2 hV hM
  go_loopw [7] (fun i wr => ∃ k : Nat, k ≤ 8 ∧ i = .int .i64 k ∧ Below w.heap.size w wr ∧ wr.heap[w.heap.size]? = some (.cells #[.slice (some ⟨b1, o1, none⟩) 8 c1, .slice (some ⟨b2, o2, none⟩) 8 c2] 25 (0, 0)) ∧ wr.heap[w.heap.size + 1]? = some (.cells #[.slice (some ⟨b3, o3, none⟩) 8 c3, .slice (some ⟨b4, o4, none⟩) 8 c4] 25 (0, 0)) ∧ wr.heap[w.heap.size + 1 + 1]? = some (.cells #[.slice none 0 0, .slice none 0 0] 25 (0, 0)) ∧ wr.heap[X]? = some (.cells #[.slice (some ⟨gV, 0, none⟩) 8 cV, .slice (some ⟨gM, 0, none⟩) 8 cM] 25 (0, 0)) ∧ Wt wr (some ⟨gV, 0, none⟩) gV (lst (cut nv nul k)) ∧ Wt wr (some ⟨gM, 0, none⟩) gM (lst (cut nm nul k)) ∧ ∀ f, f < k → ∀ i, i < Bw.fbN f → (Bw.bitI (M.getD f 0) i = 1 → Bw.bitI (M'.getD f 0) i = 1 → Bw.bitI (V.getD f 0) i = Bw.bitI (V'.getD f 0) i)) (fun i _ => 8 - (intOf i).toNat)
  case atStart => exact ⟨0, Nat.zero_le _, rfl, B, k0, k1, kR, kX, hV0, hM0, fun f hf => by omega⟩
  case round =>
    obtain ⟨k, hk, rfl, hbo, q0, q1, qR, qX, hv, hm, hgo⟩ := hrel
    have HG : Hid (∀ f, f < k → ∀ i, i < Bw.fbN f → (Bw.bitI (M.getD f 0) i = 1 → Bw.bitI (M'.getD f 0) i = 1 → Bw.bitI (V.getD f 0) i = Bw.bitI (V'.getD f 0) i)) := hgo
    clear hgo B k0 k1 kR kX hV0 hM0
    have z0 := (Array.getElem?_eq_some_iff.1 q0).1
    have z1 := (Array.getElem?_eq_some_iff.1 q1).1
    have zR := (Array.getElem?_eq_some_iff.1 qR).1
    have zX := (Array.getElem?_eq_some_iff.1 qX).1
    by_cases hlt : k < 8
    · have hkz : (k : Int) < 8 := by omega
      have h48 := Bw.fbN_le k
      have HF : Hid (∀ w, Calls Try.prog 66 #[.int .i64 k] w fun e w' => e = .returned (.int .i64 (Bw.fbN k : Int)) ∧ Below w.heap.size w w') := (fun w => by have := specBits_any k w; rw [Bw.fbN_eq] at this; exact this : ∀ w, Calls Try.prog 66 #[.int .i64 k] w fun e w' => e = .returned (.int .i64 (Bw.fbN k : Int)) ∧ Below w.heap.size w w')
      go_wp2
      go_loopw [8] (fun i wx => ∃ j : Nat, j ≤ Bw.fbN k ∧ i = .int .i64 j ∧ Below wr.heap.size wr wx ∧ ∀ i, i < j → (Bw.bitI (M.getD k 0) i = 1 → Bw.bitI (M'.getD k 0) i = 1 → Bw.bitI (V.getD k 0) i = Bw.bitI (V'.getD k 0) i)) (fun i _ => Bw.fbN k - (intOf i).toNat)
      case atStart => exact ⟨0, Nat.zero_le _, rfl, Below.refl _ _, fun i hi => by omega⟩
      case round =>
        obtain ⟨j, hj, rfl, hbi, hgi⟩ := hrel
        have HI : Hid (∀ i, i < j → (Bw.bitI (M.getD k 0) i = 1 → Bw.bitI (M'.getD k 0) i = 1 → Bw.bitI (V.getD k 0) i = Bw.bitI (V'.getD k 0) i)) := hgi
        clear hgi
        by_cases hjl : j < Bw.fbN k
        · have hjz : (j : Int) < (Bw.fbN k : Int) := by omega
          have hj48 : j < 48 := by omega
          go_wp2_with (go_at_call 66; refine (HF.out _).mono ?_; rintro e ws ⟨rfl, hb⟩; replace hbi := Rw.next hbi hb; clear hb)
          have hbel := Rw.next hbo hbi
          replace q0 := (hbi.block _ z0).trans q0
          replace q1 := (hbi.block _ z1).trans q1
          replace qR := (hbi.block _ zR).trans qR
          obtain ⟨p00, p01⟩ := two q0
          obtain ⟨p10, p11⟩ := two q1
          obtain ⟨s0, s1⟩ := two qR
          have fR := Bl.free qR
          have zS := (Array.getElem?_eq_some_iff.1 qR).1
          clear q0 q1 qR qX hv hm z0 z1 zR zX
          have g1 : ws.cell? ⟨b1, o1 + k, none⟩ = some (.int .i64 (V.getD k 0)) := (hbel.cell (World.block_lt_of_cell? _ _ (R1.out k hlt))).trans (R1.out k hlt)
          have H1 : Hid (∀ w, Calls Try.prog 67 #[.int .i64 (V.getD k 0), .int .i64 j] w fun e w' => e = .returned (.int .i64 (Bw.bitI (V.getD k 0) j)) ∧ w' = w) := (fun w => Bw.bit_any _ _ (D1.out k hlt).1 (D1.out k hlt).2 hj48 w : ∀ w, Calls Try.prog 67 #[.int .i64 (V.getD k 0), .int .i64 j] w fun e w' => e = .returned (.int .i64 (Bw.bitI (V.getD k 0) j)) ∧ w' = w)
          have y1 := Bw.bit_01 (V.getD k 0) j
          have g2 : ws.cell? ⟨b2, o2 + k, none⟩ = some (.int .i64 (M.getD k 0)) := (hbel.cell (World.block_lt_of_cell? _ _ (R2.out k hlt))).trans (R2.out k hlt)
          have H2 : Hid (∀ w, Calls Try.prog 67 #[.int .i64 (M.getD k 0), .int .i64 j] w fun e w' => e = .returned (.int .i64 (Bw.bitI (M.getD k 0) j)) ∧ w' = w) := (fun w => Bw.bit_any _ _ (D2.out k hlt).1 (D2.out k hlt).2 hj48 w : ∀ w, Calls Try.prog 67 #[.int .i64 (M.getD k 0), .int .i64 j] w fun e w' => e = .returned (.int .i64 (Bw.bitI (M.getD k 0) j)) ∧ w' = w)
          have y2 := Bw.bit_01 (M.getD k 0) j
          have g3 : ws.cell? ⟨b3, o3 + k, none⟩ = some (.int .i64 (V'.getD k 0)) := (hbel.cell (World.block_lt_of_cell? _ _ (R3.out k hlt))).trans (R3.out k hlt)
          have H3 : Hid (∀ w, Calls Try.prog 67 #[.int .i64 (V'.getD k 0), .int .i64 j] w fun e w' => e = .returned (.int .i64 (Bw.bitI (V'.getD k 0) j)) ∧ w' = w) := (fun w => Bw.bit_any _ _ (D3.out k hlt).1 (D3.out k hlt).2 hj48 w : ∀ w, Calls Try.prog 67 #[.int .i64 (V'.getD k 0), .int .i64 j] w fun e w' => e = .returned (.int .i64 (Bw.bitI (V'.getD k 0) j)) ∧ w' = w)
          have y3 := Bw.bit_01 (V'.getD k 0) j
          have g4 : ws.cell? ⟨b4, o4 + k, none⟩ = some (.int .i64 (M'.getD k 0)) := (hbel.cell (World.block_lt_of_cell? _ _ (R4.out k hlt))).trans (R4.out k hlt)
          have H4 : Hid (∀ w, Calls Try.prog 67 #[.int .i64 (M'.getD k 0), .int .i64 j] w fun e w' => e = .returned (.int .i64 (Bw.bitI (M'.getD k 0) j)) ∧ w' = w) := (fun w => Bw.bit_any _ _ (D4.out k hlt).1 (D4.out k hlt).2 hj48 w : ∀ w, Calls Try.prog 67 #[.int .i64 (M'.getD k 0), .int .i64 j] w fun e w' => e = .returned (.int .i64 (Bw.bitI (M'.getD k 0) j)) ∧ w' = w)
          have y4 := Bw.bit_01 (M'.getD k 0) j
          have HN : Hid (¬ (Bw.bitI (M.getD k 0) j = 1 → Bw.bitI (M'.getD k 0) j = 1 → Bw.bitI (V.getD k 0) j = Bw.bitI (V'.getD k 0) j) → R = false) := (fun h => by cases hr : R with | false => rfl | true => exact absurd (HR.out.1 hr k hlt j hjl) h : ¬ (Bw.bitI (M.getD k 0) j = 1 → Bw.bitI (M'.getD k 0) j = 1 → Bw.bitI (V.getD k 0) j = Bw.bitI (V'.getD k 0) j) → R = false)
          have HY : Hid ((Bw.bitI (M.getD k 0) j = 1 → Bw.bitI (M'.getD k 0) j = 1 → Bw.bitI (V.getD k 0) j = Bw.bitI (V'.getD k 0) j) → ∀ i, i < j + 1 → (Bw.bitI (M.getD k 0) i = 1 → Bw.bitI (M'.getD k 0) i = 1 → Bw.bitI (V.getD k 0) i = Bw.bitI (V'.getD k 0) i)) := (fun h i hi => by by_cases e : i = j; (· subst e; exact h); (· exact HI.out i (by omega)) : (Bw.bitI (M.getD k 0) j = 1 → Bw.bitI (M'.getD k 0) j = 1 → Bw.bitI (V.getD k 0) j = Bw.bitI (V'.getD k 0) j) → ∀ i, i < j + 1 → (Bw.bitI (M.getD k 0) i = 1 → Bw.bitI (M'.getD k 0) i = 1 → Bw.bitI (V.getD k 0) i = Bw.bitI (V'.getD k 0) i))
          generalize e1a : Bw.bitI (V.getD k 0) j = x1 at *
          generalize e1b : V.getD k 0 = m1 at H1 g1
          generalize e2a : Bw.bitI (M.getD k 0) j = x2 at *
          generalize e2b : M.getD k 0 = m2 at H2 g2
          generalize e3a : Bw.bitI (V'.getD k 0) j = x3 at *
          generalize e3b : V'.getD k 0 = m3 at H3 g3
          generalize e4a : Bw.bitI (M'.getD k 0) j = x4 at *
          generalize e4b : M'.getD k 0 = m4 at H4 g4
          clear e1a e1b e2a e2b e3a e3b e4a e4b
          clear HI HF NV NM HG HLT D1 D2 D3 D4
          have hc : x2 = 0 ∨ (x2 = 1 ∧ x4 = 0) ∨ (x2 = 1 ∧ x4 = 1 ∧ x1 = x3) ∨ (x2 = 1 ∧ x4 = 1 ∧ ¬ x1 = x3) := by omega
          rcases hc with u | ⟨u, v⟩ | ⟨u, v, t⟩ | ⟨u, v, t⟩
          · have U : Hid (x2 = 0) := u
            have f1 : (x2 == 1) = false := by rw [u]; rfl
            clear u y1 y2 y3 y4
            refine wp_region_held_drew (S := (fun w' => w'.cell? ⟨w.heap.size, 0, none⟩ = some (.slice (some ⟨b1, o1, none⟩) 8 c1) ∧ w'.cell? ⟨w.heap.size, 1, none⟩ = some (.slice (some ⟨b2, o2, none⟩) 8 c2) ∧ w'.cell? ⟨w.heap.size + 1, 0, none⟩ = some (.slice (some ⟨b3, o3, none⟩) 8 c3) ∧ w'.cell? ⟨w.heap.size + 1, 1, none⟩ = some (.slice (some ⟨b4, o4, none⟩) 8 c4) ∧ w'.cell? ⟨b1, o1 + k, none⟩ = some (.int .i64 m1) ∧ w'.cell? ⟨b2, o2 + k, none⟩ = some (.int .i64 m2) ∧ w'.cell? ⟨b3, o3 + k, none⟩ = some (.int .i64 m3) ∧ w'.cell? ⟨b4, o4 + k, none⟩ = some (.int .i64 m4))) (by kernel_rfl) ⟨p00, p01, p10, p11, g1, g2, g3, g4⟩ (fun hHeld => ?_)
            refine take (i := 0) (d := some 29) (v := .pointer (some ⟨w.heap.size, 1, none⟩)) rfl (by kernel_rfl) (by kernel_rfl) (by kernel_rfl) (by kernel_rfl) (fun _ _ _ h => h) (Or.inl ⟨by rfl, by intro w hSw; go_simp⟩) hHeld ?_
            simp only [Act.put, List.setIfInBounds_toArray, List.set_cons_zero, List.set_cons_succ]
            refine take (i := 1) (d := some 30) (v := .slice (some ⟨b2, o2, none⟩) 8 c2) rfl (by kernel_rfl) (by kernel_rfl) (by kernel_rfl) (by kernel_rfl) (fun _ _ _ h => h) (Or.inl ⟨by rfl, by intro w hSw; obtain ⟨p00, p01, p10, p11, g1, g2, g3, g4⟩ := hSw; go_simp⟩) hHeld ?_
            simp only [Act.put, List.setIfInBounds_toArray, List.set_cons_zero, List.set_cons_succ]
            refine take (i := 2) (d := some 31) (v := .int .i64 k) rfl (by kernel_rfl) (by kernel_rfl) (by kernel_rfl) (by kernel_rfl) (fun _ _ _ h => h) (Or.inl ⟨by rfl, by intro w hSw; go_simp⟩) hHeld ?_
            simp only [Act.put, List.setIfInBounds_toArray, List.set_cons_zero, List.set_cons_succ]
            refine take (i := 3) (d := some 32) (v := .pointer (some ⟨b2, o2 + k, none⟩)) rfl (by kernel_rfl) (by kernel_rfl) (by kernel_rfl) (by kernel_rfl) (fun _ _ _ h => h) (Or.inl ⟨by rfl, by intro w hSw; go_simp⟩) hHeld ?_
            simp only [Act.put, List.setIfInBounds_toArray, List.set_cons_zero, List.set_cons_succ]
            refine take (i := 4) (d := some 33) (v := .int .i64 m2) rfl (by kernel_rfl) (by kernel_rfl) (by kernel_rfl) (by kernel_rfl) (fun _ _ _ h => h) (Or.inl ⟨by rfl, by intro w hSw; obtain ⟨p00, p01, p10, p11, g1, g2, g3, g4⟩ := hSw; go_simp⟩) hHeld ?_
            simp only [Act.put, List.setIfInBounds_toArray, List.set_cons_zero, List.set_cons_succ]
            refine take (i := 5) (d := some 34) (v := .int .i64 j) rfl (by kernel_rfl) (by kernel_rfl) (by kernel_rfl) (by kernel_rfl) (fun _ _ _ h => h) (Or.inl ⟨by rfl, by intro w hSw; go_simp⟩) hHeld ?_
            simp only [Act.put, List.setIfInBounds_toArray, List.set_cons_zero, List.set_cons_succ]
            refine wpAnyH_ready (rs := [6]) (by kernel_rfl) (by simp) (Mi.readyCall2 rfl (by kernel_rfl) 67 (.tmp 33) (.tmp 34) 3 3 (by kernel_rfl) 35 (by kernel_rfl) _ _ (by kernel_rfl) (by kernel_rfl) (fun _ => rfl) (H2.out _) (fun wx hb => by rw [hb]; exact hHeld) (fun wx hb hHeld => ?_) AllReadyH.nil)
            subst hb
            simp only [Act.put, List.setIfInBounds_toArray, List.set_cons_zero, List.set_cons_succ]
            refine take (i := 7) (d := some 36) (v := .bool false) rfl (by kernel_rfl) (by kernel_rfl) (by kernel_rfl) (by kernel_rfl) (fun _ _ _ h => h) (Or.inl ⟨by rfl, by intro w hSw; go_simp⟩) hHeld ?_
            simp only [Act.put, List.setIfInBounds_toArray, List.set_cons_zero, List.set_cons_succ]
            refine take (i := 8) (d := some 37) (v := .bool false) rfl (by kernel_rfl) (by kernel_rfl) (by kernel_rfl) (by kernel_rfl) (fun _ _ _ h => h) (Or.inl ⟨by rfl, by intro w hSw; go_simp⟩) hHeld ?_
            simp only [Act.put, List.setIfInBounds_toArray, List.set_cons_zero, List.set_cons_succ]
            refine take (i := 9) (d := some 38) (v := undef) rfl (by kernel_rfl) (by kernel_rfl) (by kernel_rfl) (by kernel_rfl) (fun _ _ _ h => h) (Or.inr ⟨by rfl, rfl⟩) hHeld ?_
            simp only [Act.put, List.setIfInBounds_toArray, List.set_cons_zero, List.set_cons_succ]
            refine take (i := 10) (d := some 39) (v := undef) rfl (by kernel_rfl) (by kernel_rfl) (by kernel_rfl) (by kernel_rfl) (fun _ _ _ h => h) (Or.inr ⟨by rfl, rfl⟩) hHeld ?_
            simp only [Act.put, List.setIfInBounds_toArray, List.set_cons_zero, List.set_cons_succ]
            refine take (i := 11) (d := some 40) (v := undef) rfl (by kernel_rfl) (by kernel_rfl) (by kernel_rfl) (by kernel_rfl) (fun _ _ _ h => h) (Or.inr ⟨by rfl, rfl⟩) hHeld ?_
            simp only [Act.put, List.setIfInBounds_toArray, List.set_cons_zero, List.set_cons_succ]
            refine take (i := 12) (d := some 41) (v := undef) rfl (by kernel_rfl) (by kernel_rfl) (by kernel_rfl) (by kernel_rfl) (fun _ _ _ h => h) (Or.inr ⟨by rfl, rfl⟩) hHeld ?_
            simp only [Act.put, List.setIfInBounds_toArray, List.set_cons_zero, List.set_cons_succ]
            refine take (i := 13) (d := some 42) (v := undef) rfl (by kernel_rfl) (by kernel_rfl) (by kernel_rfl) (by kernel_rfl) (fun _ _ _ h => h) (Or.inr ⟨by rfl, rfl⟩) hHeld ?_
            simp only [Act.put, List.setIfInBounds_toArray, List.set_cons_zero, List.set_cons_succ]
            refine take (i := 14) (d := some 43) (v := undef) rfl (by kernel_rfl) (by kernel_rfl) (by kernel_rfl) (by kernel_rfl) (fun _ _ _ h => h) (Or.inr ⟨by rfl, rfl⟩) hHeld ?_
            simp only [Act.put, List.setIfInBounds_toArray, List.set_cons_zero, List.set_cons_succ]
            refine take (i := 15) (d := some 44) (v := undef) rfl (by kernel_rfl) (by kernel_rfl) (by kernel_rfl) (by kernel_rfl) (fun _ _ _ h => h) (Or.inr ⟨by rfl, rfl⟩) hHeld ?_
            simp only [Act.put, List.setIfInBounds_toArray, List.set_cons_zero, List.set_cons_succ]
            refine take (i := 16) (d := some 45) (v := undef) rfl (by kernel_rfl) (by kernel_rfl) (by kernel_rfl) (by kernel_rfl) (fun _ _ _ h => h) (Or.inr ⟨by rfl, rfl⟩) hHeld ?_
            simp only [Act.put, List.setIfInBounds_toArray, List.set_cons_zero, List.set_cons_succ]
            refine take (i := 17) (d := some 46) (v := .bool false) rfl (by kernel_rfl) (by kernel_rfl) (by kernel_rfl) (by kernel_rfl) (fun _ _ _ h => h) (Or.inl ⟨by rfl, by intro w hSw; go_simp⟩) hHeld ?_
            simp only [Act.put, List.setIfInBounds_toArray, List.set_cons_zero, List.set_cons_succ]
            refine take (i := 18) (d := some 47) (v := .bool false) rfl (by kernel_rfl) (by kernel_rfl) (by kernel_rfl) (by kernel_rfl) (fun _ _ _ h => h) (Or.inl ⟨by rfl, by intro w hSw; go_simp⟩) hHeld ?_
            simp only [Act.put, List.setIfInBounds_toArray, List.set_cons_zero, List.set_cons_succ]
            refine take (i := 19) (d := some 48) (v := undef) rfl (by kernel_rfl) (by kernel_rfl) (by kernel_rfl) (by kernel_rfl) (fun _ _ _ h => h) (Or.inr ⟨by rfl, rfl⟩) hHeld ?_
            simp only [Act.put, List.setIfInBounds_toArray, List.set_cons_zero, List.set_cons_succ]
            refine take (i := 20) (d := some 49) (v := undef) rfl (by kernel_rfl) (by kernel_rfl) (by kernel_rfl) (by kernel_rfl) (fun _ _ _ h => h) (Or.inr ⟨by rfl, rfl⟩) hHeld ?_
            simp only [Act.put, List.setIfInBounds_toArray, List.set_cons_zero, List.set_cons_succ]
            refine take (i := 21) (d := some 50) (v := undef) rfl (by kernel_rfl) (by kernel_rfl) (by kernel_rfl) (by kernel_rfl) (fun _ _ _ h => h) (Or.inr ⟨by rfl, rfl⟩) hHeld ?_
            simp only [Act.put, List.setIfInBounds_toArray, List.set_cons_zero, List.set_cons_succ]
            refine take (i := 22) (d := some 51) (v := undef) rfl (by kernel_rfl) (by kernel_rfl) (by kernel_rfl) (by kernel_rfl) (fun _ _ _ h => h) (Or.inr ⟨by rfl, rfl⟩) hHeld ?_
            simp only [Act.put, List.setIfInBounds_toArray, List.set_cons_zero, List.set_cons_succ]
            refine take (i := 23) (d := some 52) (v := undef) rfl (by kernel_rfl) (by kernel_rfl) (by kernel_rfl) (by kernel_rfl) (fun _ _ _ h => h) (Or.inr ⟨by rfl, rfl⟩) hHeld ?_
            simp only [Act.put, List.setIfInBounds_toArray, List.set_cons_zero, List.set_cons_succ]
            refine take (i := 24) (d := some 53) (v := undef) rfl (by kernel_rfl) (by kernel_rfl) (by kernel_rfl) (by kernel_rfl) (fun _ _ _ h => h) (Or.inr ⟨by rfl, rfl⟩) hHeld ?_
            simp only [Act.put, List.setIfInBounds_toArray, List.set_cons_zero, List.set_cons_succ]
            refine take (i := 26) (d := some 55) (v := undef) rfl (by kernel_rfl) (by kernel_rfl) (by kernel_rfl) (by kernel_rfl) (fun _ _ _ h => h) (Or.inr ⟨by rfl, rfl⟩) hHeld ?_
            simp only [Act.put, List.setIfInBounds_toArray, List.set_cons_zero, List.set_cons_succ]
            refine take (i := 27) (d := some 56) (v := undef) rfl (by kernel_rfl) (by kernel_rfl) (by kernel_rfl) (by kernel_rfl) (fun _ _ _ h => h) (Or.inr ⟨by rfl, rfl⟩) hHeld ?_
            simp only [Act.put, List.setIfInBounds_toArray, List.set_cons_zero, List.set_cons_succ]
            refine take (i := 28) (d := some 57) (v := undef) rfl (by kernel_rfl) (by kernel_rfl) (by kernel_rfl) (by kernel_rfl) (fun _ _ _ h => h) (Or.inr ⟨by rfl, rfl⟩) hHeld ?_
            simp only [Act.put, List.setIfInBounds_toArray, List.set_cons_zero, List.set_cons_succ]
            refine take (i := 29) (d := some 58) (v := undef) rfl (by kernel_rfl) (by kernel_rfl) (by kernel_rfl) (by kernel_rfl) (fun _ _ _ h => h) (Or.inr ⟨by rfl, rfl⟩) hHeld ?_
            simp only [Act.put, List.setIfInBounds_toArray, List.set_cons_zero, List.set_cons_succ]
            refine take (i := 30) (d := some 59) (v := undef) rfl (by kernel_rfl) (by kernel_rfl) (by kernel_rfl) (by kernel_rfl) (fun _ _ _ h => h) (Or.inr ⟨by rfl, rfl⟩) hHeld ?_
            simp only [Act.put, List.setIfInBounds_toArray, List.set_cons_zero, List.set_cons_succ]
            refine take (i := 31) (d := some 60) (v := undef) rfl (by kernel_rfl) (by kernel_rfl) (by kernel_rfl) (by kernel_rfl) (fun _ _ _ h => h) (Or.inr ⟨by rfl, rfl⟩) hHeld ?_
            simp only [Act.put, List.setIfInBounds_toArray, List.set_cons_zero, List.set_cons_succ]
            refine take (i := 25) (d := some 54) (v := undef) rfl (by kernel_rfl) (by kernel_rfl) (by kernel_rfl) (by kernel_rfl) (fun _ _ _ h => h) (Or.inr ⟨by rfl, rfl⟩) hHeld ?_
            simp only [Act.put, List.setIfInBounds_toArray, List.set_cons_zero, List.set_cons_succ]
            refine take (i := 32) (d := some 61) (v := undef) rfl (by kernel_rfl) (by kernel_rfl) (by kernel_rfl) (by kernel_rfl) (fun _ _ _ h => h) (Or.inr ⟨by rfl, rfl⟩) hHeld ?_
            simp only [Act.put, List.setIfInBounds_toArray, List.set_cons_zero, List.set_cons_succ]
            refine take (i := 33) (d := some 62) (v := undef) rfl (by kernel_rfl) (by kernel_rfl) (by kernel_rfl) (by kernel_rfl) (fun _ _ _ h => h) (Or.inr ⟨by rfl, rfl⟩) hHeld ?_
            simp only [Act.put, List.setIfInBounds_toArray, List.set_cons_zero, List.set_cons_succ]
            refine take (i := 34) (d := some 63) (v := .bool false) rfl (by kernel_rfl) (by kernel_rfl) (by kernel_rfl) (by kernel_rfl) (fun _ _ _ h => h) (Or.inl ⟨by rfl, by intro w hSw; go_simp⟩) hHeld ?_
            simp only [Act.put, List.setIfInBounds_toArray, List.set_cons_zero, List.set_cons_succ]
            refine wpAnyH_done (by kernel_rfl) ?_ _
            go_wp2
            go_roundw
            case rel => exact ⟨j + 1, by omega, by go_num, hbi.drew, HY.out (fun h => by have := U.out; omega)⟩
            case measure => simp [intOf]; omega
          · have U : Hid (x4 = 0) := v
            have f1 : (x2 == 1) = true := by rw [u]; rfl
            have f2 : (x4 == 1) = false := by rw [v]; rfl
            clear u v y1 y2 y3 y4
            refine wp_region_held_drew (S := (fun w' => w'.cell? ⟨w.heap.size, 0, none⟩ = some (.slice (some ⟨b1, o1, none⟩) 8 c1) ∧ w'.cell? ⟨w.heap.size, 1, none⟩ = some (.slice (some ⟨b2, o2, none⟩) 8 c2) ∧ w'.cell? ⟨w.heap.size + 1, 0, none⟩ = some (.slice (some ⟨b3, o3, none⟩) 8 c3) ∧ w'.cell? ⟨w.heap.size + 1, 1, none⟩ = some (.slice (some ⟨b4, o4, none⟩) 8 c4) ∧ w'.cell? ⟨b1, o1 + k, none⟩ = some (.int .i64 m1) ∧ w'.cell? ⟨b2, o2 + k, none⟩ = some (.int .i64 m2) ∧ w'.cell? ⟨b3, o3 + k, none⟩ = some (.int .i64 m3) ∧ w'.cell? ⟨b4, o4 + k, none⟩ = some (.int .i64 m4))) (by kernel_rfl) ⟨p00, p01, p10, p11, g1, g2, g3, g4⟩ (fun hHeld => ?_)
            refine take (i := 0) (d := some 29) (v := .pointer (some ⟨w.heap.size, 1, none⟩)) rfl (by kernel_rfl) (by kernel_rfl) (by kernel_rfl) (by kernel_rfl) (fun _ _ _ h => h) (Or.inl ⟨by rfl, by intro w hSw; go_simp⟩) hHeld ?_
            simp only [Act.put, List.setIfInBounds_toArray, List.set_cons_zero, List.set_cons_succ]
            refine take (i := 1) (d := some 30) (v := .slice (some ⟨b2, o2, none⟩) 8 c2) rfl (by kernel_rfl) (by kernel_rfl) (by kernel_rfl) (by kernel_rfl) (fun _ _ _ h => h) (Or.inl ⟨by rfl, by intro w hSw; obtain ⟨p00, p01, p10, p11, g1, g2, g3, g4⟩ := hSw; go_simp⟩) hHeld ?_
            simp only [Act.put, List.setIfInBounds_toArray, List.set_cons_zero, List.set_cons_succ]
            refine take (i := 2) (d := some 31) (v := .int .i64 k) rfl (by kernel_rfl) (by kernel_rfl) (by kernel_rfl) (by kernel_rfl) (fun _ _ _ h => h) (Or.inl ⟨by rfl, by intro w hSw; go_simp⟩) hHeld ?_
            simp only [Act.put, List.setIfInBounds_toArray, List.set_cons_zero, List.set_cons_succ]
            refine take (i := 3) (d := some 32) (v := .pointer (some ⟨b2, o2 + k, none⟩)) rfl (by kernel_rfl) (by kernel_rfl) (by kernel_rfl) (by kernel_rfl) (fun _ _ _ h => h) (Or.inl ⟨by rfl, by intro w hSw; go_simp⟩) hHeld ?_
            simp only [Act.put, List.setIfInBounds_toArray, List.set_cons_zero, List.set_cons_succ]
            refine take (i := 4) (d := some 33) (v := .int .i64 m2) rfl (by kernel_rfl) (by kernel_rfl) (by kernel_rfl) (by kernel_rfl) (fun _ _ _ h => h) (Or.inl ⟨by rfl, by intro w hSw; obtain ⟨p00, p01, p10, p11, g1, g2, g3, g4⟩ := hSw; go_simp⟩) hHeld ?_
            simp only [Act.put, List.setIfInBounds_toArray, List.set_cons_zero, List.set_cons_succ]
            refine take (i := 5) (d := some 34) (v := .int .i64 j) rfl (by kernel_rfl) (by kernel_rfl) (by kernel_rfl) (by kernel_rfl) (fun _ _ _ h => h) (Or.inl ⟨by rfl, by intro w hSw; go_simp⟩) hHeld ?_
            simp only [Act.put, List.setIfInBounds_toArray, List.set_cons_zero, List.set_cons_succ]
            refine wpAnyH_ready (rs := [6]) (by kernel_rfl) (by simp) (Mi.readyCall2 rfl (by kernel_rfl) 67 (.tmp 33) (.tmp 34) 3 3 (by kernel_rfl) 35 (by kernel_rfl) _ _ (by kernel_rfl) (by kernel_rfl) (fun _ => rfl) (H2.out _) (fun wx hb => by rw [hb]; exact hHeld) (fun wx hb hHeld => ?_) AllReadyH.nil)
            subst hb
            simp only [Act.put, List.setIfInBounds_toArray, List.set_cons_zero, List.set_cons_succ]
            refine take (i := 7) (d := some 36) (v := .bool true) rfl (by kernel_rfl) (by kernel_rfl) (by kernel_rfl) (by kernel_rfl) (fun _ _ _ h => h) (Or.inl ⟨by rfl, by intro w hSw; go_simp⟩) hHeld ?_
            simp only [Act.put, List.setIfInBounds_toArray, List.set_cons_zero, List.set_cons_succ]
            refine take (i := 8) (d := some 37) (v := .bool true) rfl (by kernel_rfl) (by kernel_rfl) (by kernel_rfl) (by kernel_rfl) (fun _ _ _ h => h) (Or.inl ⟨by rfl, by intro w hSw; go_simp⟩) hHeld ?_
            simp only [Act.put, List.setIfInBounds_toArray, List.set_cons_zero, List.set_cons_succ]
            refine take (i := 9) (d := some 38) (v := .pointer (some ⟨w.heap.size + 1, 1, none⟩)) rfl (by kernel_rfl) (by kernel_rfl) (by kernel_rfl) (by kernel_rfl) (fun _ _ _ h => h) (Or.inl ⟨by rfl, by intro w hSw; go_simp⟩) hHeld ?_
            simp only [Act.put, List.setIfInBounds_toArray, List.set_cons_zero, List.set_cons_succ]
            refine take (i := 10) (d := some 39) (v := .slice (some ⟨b4, o4, none⟩) 8 c4) rfl (by kernel_rfl) (by kernel_rfl) (by kernel_rfl) (by kernel_rfl) (fun _ _ _ h => h) (Or.inl ⟨by rfl, by intro w hSw; obtain ⟨p00, p01, p10, p11, g1, g2, g3, g4⟩ := hSw; go_simp⟩) hHeld ?_
            simp only [Act.put, List.setIfInBounds_toArray, List.set_cons_zero, List.set_cons_succ]
            refine take (i := 11) (d := some 40) (v := .int .i64 k) rfl (by kernel_rfl) (by kernel_rfl) (by kernel_rfl) (by kernel_rfl) (fun _ _ _ h => h) (Or.inl ⟨by rfl, by intro w hSw; go_simp⟩) hHeld ?_
            simp only [Act.put, List.setIfInBounds_toArray, List.set_cons_zero, List.set_cons_succ]
            refine take (i := 12) (d := some 41) (v := .pointer (some ⟨b4, o4 + k, none⟩)) rfl (by kernel_rfl) (by kernel_rfl) (by kernel_rfl) (by kernel_rfl) (fun _ _ _ h => h) (Or.inl ⟨by rfl, by intro w hSw; go_simp⟩) hHeld ?_
            simp only [Act.put, List.setIfInBounds_toArray, List.set_cons_zero, List.set_cons_succ]
            refine take (i := 13) (d := some 42) (v := .int .i64 m4) rfl (by kernel_rfl) (by kernel_rfl) (by kernel_rfl) (by kernel_rfl) (fun _ _ _ h => h) (Or.inl ⟨by rfl, by intro w hSw; obtain ⟨p00, p01, p10, p11, g1, g2, g3, g4⟩ := hSw; go_simp⟩) hHeld ?_
            simp only [Act.put, List.setIfInBounds_toArray, List.set_cons_zero, List.set_cons_succ]
            refine take (i := 14) (d := some 43) (v := .int .i64 j) rfl (by kernel_rfl) (by kernel_rfl) (by kernel_rfl) (by kernel_rfl) (fun _ _ _ h => h) (Or.inl ⟨by rfl, by intro w hSw; go_simp⟩) hHeld ?_
            simp only [Act.put, List.setIfInBounds_toArray, List.set_cons_zero, List.set_cons_succ]
            refine wpAnyH_ready (rs := [15]) (by kernel_rfl) (by simp) (Mi.readyCall2 rfl (by kernel_rfl) 67 (.tmp 42) (.tmp 43) 3 3 (by kernel_rfl) 44 (by kernel_rfl) _ _ (by kernel_rfl) (by kernel_rfl) (fun _ => rfl) (H4.out _) (fun wx hb => by rw [hb]; exact hHeld) (fun wx hb hHeld => ?_) AllReadyH.nil)
            subst hb
            simp only [Act.put, List.setIfInBounds_toArray, List.set_cons_zero, List.set_cons_succ]
            refine take (i := 16) (d := some 45) (v := .bool false) rfl (by kernel_rfl) (by kernel_rfl) (by kernel_rfl) (by kernel_rfl) (fun _ _ _ h => h) (Or.inl ⟨by rfl, by intro w hSw; go_simp⟩) hHeld ?_
            simp only [Act.put, List.setIfInBounds_toArray, List.set_cons_zero, List.set_cons_succ]
            refine take (i := 17) (d := some 46) (v := .bool false) rfl (by kernel_rfl) (by kernel_rfl) (by kernel_rfl) (by kernel_rfl) (fun _ _ _ h => h) (Or.inl ⟨by rfl, by intro w hSw; go_simp⟩) hHeld ?_
            simp only [Act.put, List.setIfInBounds_toArray, List.set_cons_zero, List.set_cons_succ]
            refine take (i := 18) (d := some 47) (v := .bool false) rfl (by kernel_rfl) (by kernel_rfl) (by kernel_rfl) (by kernel_rfl) (fun _ _ _ h => h) (Or.inl ⟨by rfl, by intro w hSw; go_simp⟩) hHeld ?_
            simp only [Act.put, List.setIfInBounds_toArray, List.set_cons_zero, List.set_cons_succ]
            refine take (i := 19) (d := some 48) (v := undef) rfl (by kernel_rfl) (by kernel_rfl) (by kernel_rfl) (by kernel_rfl) (fun _ _ _ h => h) (Or.inr ⟨by rfl, rfl⟩) hHeld ?_
            simp only [Act.put, List.setIfInBounds_toArray, List.set_cons_zero, List.set_cons_succ]
            refine take (i := 20) (d := some 49) (v := undef) rfl (by kernel_rfl) (by kernel_rfl) (by kernel_rfl) (by kernel_rfl) (fun _ _ _ h => h) (Or.inr ⟨by rfl, rfl⟩) hHeld ?_
            simp only [Act.put, List.setIfInBounds_toArray, List.set_cons_zero, List.set_cons_succ]
            refine take (i := 21) (d := some 50) (v := undef) rfl (by kernel_rfl) (by kernel_rfl) (by kernel_rfl) (by kernel_rfl) (fun _ _ _ h => h) (Or.inr ⟨by rfl, rfl⟩) hHeld ?_
            simp only [Act.put, List.setIfInBounds_toArray, List.set_cons_zero, List.set_cons_succ]
            refine take (i := 22) (d := some 51) (v := undef) rfl (by kernel_rfl) (by kernel_rfl) (by kernel_rfl) (by kernel_rfl) (fun _ _ _ h => h) (Or.inr ⟨by rfl, rfl⟩) hHeld ?_
            simp only [Act.put, List.setIfInBounds_toArray, List.set_cons_zero, List.set_cons_succ]
            refine take (i := 23) (d := some 52) (v := undef) rfl (by kernel_rfl) (by kernel_rfl) (by kernel_rfl) (by kernel_rfl) (fun _ _ _ h => h) (Or.inr ⟨by rfl, rfl⟩) hHeld ?_
            simp only [Act.put, List.setIfInBounds_toArray, List.set_cons_zero, List.set_cons_succ]
            refine take (i := 24) (d := some 53) (v := undef) rfl (by kernel_rfl) (by kernel_rfl) (by kernel_rfl) (by kernel_rfl) (fun _ _ _ h => h) (Or.inr ⟨by rfl, rfl⟩) hHeld ?_
            simp only [Act.put, List.setIfInBounds_toArray, List.set_cons_zero, List.set_cons_succ]
            refine take (i := 26) (d := some 55) (v := undef) rfl (by kernel_rfl) (by kernel_rfl) (by kernel_rfl) (by kernel_rfl) (fun _ _ _ h => h) (Or.inr ⟨by rfl, rfl⟩) hHeld ?_
            simp only [Act.put, List.setIfInBounds_toArray, List.set_cons_zero, List.set_cons_succ]
            refine take (i := 27) (d := some 56) (v := undef) rfl (by kernel_rfl) (by kernel_rfl) (by kernel_rfl) (by kernel_rfl) (fun _ _ _ h => h) (Or.inr ⟨by rfl, rfl⟩) hHeld ?_
            simp only [Act.put, List.setIfInBounds_toArray, List.set_cons_zero, List.set_cons_succ]
            refine take (i := 28) (d := some 57) (v := undef) rfl (by kernel_rfl) (by kernel_rfl) (by kernel_rfl) (by kernel_rfl) (fun _ _ _ h => h) (Or.inr ⟨by rfl, rfl⟩) hHeld ?_
            simp only [Act.put, List.setIfInBounds_toArray, List.set_cons_zero, List.set_cons_succ]
            refine take (i := 29) (d := some 58) (v := undef) rfl (by kernel_rfl) (by kernel_rfl) (by kernel_rfl) (by kernel_rfl) (fun _ _ _ h => h) (Or.inr ⟨by rfl, rfl⟩) hHeld ?_
            simp only [Act.put, List.setIfInBounds_toArray, List.set_cons_zero, List.set_cons_succ]
            refine take (i := 30) (d := some 59) (v := undef) rfl (by kernel_rfl) (by kernel_rfl) (by kernel_rfl) (by kernel_rfl) (fun _ _ _ h => h) (Or.inr ⟨by rfl, rfl⟩) hHeld ?_
            simp only [Act.put, List.setIfInBounds_toArray, List.set_cons_zero, List.set_cons_succ]
            refine take (i := 31) (d := some 60) (v := undef) rfl (by kernel_rfl) (by kernel_rfl) (by kernel_rfl) (by kernel_rfl) (fun _ _ _ h => h) (Or.inr ⟨by rfl, rfl⟩) hHeld ?_
            simp only [Act.put, List.setIfInBounds_toArray, List.set_cons_zero, List.set_cons_succ]
            refine take (i := 25) (d := some 54) (v := undef) rfl (by kernel_rfl) (by kernel_rfl) (by kernel_rfl) (by kernel_rfl) (fun _ _ _ h => h) (Or.inr ⟨by rfl, rfl⟩) hHeld ?_
            simp only [Act.put, List.setIfInBounds_toArray, List.set_cons_zero, List.set_cons_succ]
            refine take (i := 32) (d := some 61) (v := undef) rfl (by kernel_rfl) (by kernel_rfl) (by kernel_rfl) (by kernel_rfl) (fun _ _ _ h => h) (Or.inr ⟨by rfl, rfl⟩) hHeld ?_
            simp only [Act.put, List.setIfInBounds_toArray, List.set_cons_zero, List.set_cons_succ]
            refine take (i := 33) (d := some 62) (v := undef) rfl (by kernel_rfl) (by kernel_rfl) (by kernel_rfl) (by kernel_rfl) (fun _ _ _ h => h) (Or.inr ⟨by rfl, rfl⟩) hHeld ?_
            simp only [Act.put, List.setIfInBounds_toArray, List.set_cons_zero, List.set_cons_succ]
            refine take (i := 34) (d := some 63) (v := .bool false) rfl (by kernel_rfl) (by kernel_rfl) (by kernel_rfl) (by kernel_rfl) (fun _ _ _ h => h) (Or.inl ⟨by rfl, by intro w hSw; go_simp⟩) hHeld ?_
            simp only [Act.put, List.setIfInBounds_toArray, List.set_cons_zero, List.set_cons_succ]
            refine wpAnyH_done (by kernel_rfl) ?_ _
            go_wp2
            go_roundw
            case rel => exact ⟨j + 1, by omega, by go_num, hbi.drew, HY.out (fun _ h => by have := U.out; omega)⟩
            case measure => simp [intOf]; omega
          · have U : Hid (x1 = x3) := t
            have f1 : (x2 == 1) = true := by rw [u]; rfl
            have f2 : (x4 == 1) = true := by rw [v]; rfl
            have f3 : (x1 != x3) = false := by rw [t]; simp
            clear u v t y1 y2 y3 y4
            refine wp_region_held_drew (S := (fun w' => w'.cell? ⟨w.heap.size, 0, none⟩ = some (.slice (some ⟨b1, o1, none⟩) 8 c1) ∧ w'.cell? ⟨w.heap.size, 1, none⟩ = some (.slice (some ⟨b2, o2, none⟩) 8 c2) ∧ w'.cell? ⟨w.heap.size + 1, 0, none⟩ = some (.slice (some ⟨b3, o3, none⟩) 8 c3) ∧ w'.cell? ⟨w.heap.size + 1, 1, none⟩ = some (.slice (some ⟨b4, o4, none⟩) 8 c4) ∧ w'.cell? ⟨b1, o1 + k, none⟩ = some (.int .i64 m1) ∧ w'.cell? ⟨b2, o2 + k, none⟩ = some (.int .i64 m2) ∧ w'.cell? ⟨b3, o3 + k, none⟩ = some (.int .i64 m3) ∧ w'.cell? ⟨b4, o4 + k, none⟩ = some (.int .i64 m4))) (by kernel_rfl) ⟨p00, p01, p10, p11, g1, g2, g3, g4⟩ (fun hHeld => ?_)
            refine take (i := 0) (d := some 29) (v := .pointer (some ⟨w.heap.size, 1, none⟩)) rfl (by kernel_rfl) (by kernel_rfl) (by kernel_rfl) (by kernel_rfl) (fun _ _ _ h => h) (Or.inl ⟨by rfl, by intro w hSw; go_simp⟩) hHeld ?_
            simp only [Act.put, List.setIfInBounds_toArray, List.set_cons_zero, List.set_cons_succ]
            refine take (i := 1) (d := some 30) (v := .slice (some ⟨b2, o2, none⟩) 8 c2) rfl (by kernel_rfl) (by kernel_rfl) (by kernel_rfl) (by kernel_rfl) (fun _ _ _ h => h) (Or.inl ⟨by rfl, by intro w hSw; obtain ⟨p00, p01, p10, p11, g1, g2, g3, g4⟩ := hSw; go_simp⟩) hHeld ?_
            simp only [Act.put, List.setIfInBounds_toArray, List.set_cons_zero, List.set_cons_succ]
            refine take (i := 2) (d := some 31) (v := .int .i64 k) rfl (by kernel_rfl) (by kernel_rfl) (by kernel_rfl) (by kernel_rfl) (fun _ _ _ h => h) (Or.inl ⟨by rfl, by intro w hSw; go_simp⟩) hHeld ?_
            simp only [Act.put, List.setIfInBounds_toArray, List.set_cons_zero, List.set_cons_succ]
            refine take (i := 3) (d := some 32) (v := .pointer (some ⟨b2, o2 + k, none⟩)) rfl (by kernel_rfl) (by kernel_rfl) (by kernel_rfl) (by kernel_rfl) (fun _ _ _ h => h) (Or.inl ⟨by rfl, by intro w hSw; go_simp⟩) hHeld ?_
            simp only [Act.put, List.setIfInBounds_toArray, List.set_cons_zero, List.set_cons_succ]
            refine take (i := 4) (d := some 33) (v := .int .i64 m2) rfl (by kernel_rfl) (by kernel_rfl) (by kernel_rfl) (by kernel_rfl) (fun _ _ _ h => h) (Or.inl ⟨by rfl, by intro w hSw; obtain ⟨p00, p01, p10, p11, g1, g2, g3, g4⟩ := hSw; go_simp⟩) hHeld ?_
            simp only [Act.put, List.setIfInBounds_toArray, List.set_cons_zero, List.set_cons_succ]
            refine take (i := 5) (d := some 34) (v := .int .i64 j) rfl (by kernel_rfl) (by kernel_rfl) (by kernel_rfl) (by kernel_rfl) (fun _ _ _ h => h) (Or.inl ⟨by rfl, by intro w hSw; go_simp⟩) hHeld ?_
            simp only [Act.put, List.setIfInBounds_toArray, List.set_cons_zero, List.set_cons_succ]
            refine wpAnyH_ready (rs := [6]) (by kernel_rfl) (by simp) (Mi.readyCall2 rfl (by kernel_rfl) 67 (.tmp 33) (.tmp 34) 3 3 (by kernel_rfl) 35 (by kernel_rfl) _ _ (by kernel_rfl) (by kernel_rfl) (fun _ => rfl) (H2.out _) (fun wx hb => by rw [hb]; exact hHeld) (fun wx hb hHeld => ?_) AllReadyH.nil)
            subst hb
            simp only [Act.put, List.setIfInBounds_toArray, List.set_cons_zero, List.set_cons_succ]
            refine take (i := 7) (d := some 36) (v := .bool true) rfl (by kernel_rfl) (by kernel_rfl) (by kernel_rfl) (by kernel_rfl) (fun _ _ _ h => h) (Or.inl ⟨by rfl, by intro w hSw; go_simp⟩) hHeld ?_
            simp only [Act.put, List.setIfInBounds_toArray, List.set_cons_zero, List.set_cons_succ]
            refine take (i := 8) (d := some 37) (v := .bool true) rfl (by kernel_rfl) (by kernel_rfl) (by kernel_rfl) (by kernel_rfl) (fun _ _ _ h => h) (Or.inl ⟨by rfl, by intro w hSw; go_simp⟩) hHeld ?_
            simp only [Act.put, List.setIfInBounds_toArray, List.set_cons_zero, List.set_cons_succ]
            refine take (i := 9) (d := some 38) (v := .pointer (some ⟨w.heap.size + 1, 1, none⟩)) rfl (by kernel_rfl) (by kernel_rfl) (by kernel_rfl) (by kernel_rfl) (fun _ _ _ h => h) (Or.inl ⟨by rfl, by intro w hSw; go_simp⟩) hHeld ?_
            simp only [Act.put, List.setIfInBounds_toArray, List.set_cons_zero, List.set_cons_succ]
            refine take (i := 10) (d := some 39) (v := .slice (some ⟨b4, o4, none⟩) 8 c4) rfl (by kernel_rfl) (by kernel_rfl) (by kernel_rfl) (by kernel_rfl) (fun _ _ _ h => h) (Or.inl ⟨by rfl, by intro w hSw; obtain ⟨p00, p01, p10, p11, g1, g2, g3, g4⟩ := hSw; go_simp⟩) hHeld ?_
            simp only [Act.put, List.setIfInBounds_toArray, List.set_cons_zero, List.set_cons_succ]
            refine take (i := 11) (d := some 40) (v := .int .i64 k) rfl (by kernel_rfl) (by kernel_rfl) (by kernel_rfl) (by kernel_rfl) (fun _ _ _ h => h) (Or.inl ⟨by rfl, by intro w hSw; go_simp⟩) hHeld ?_
            simp only [Act.put, List.setIfInBounds_toArray, List.set_cons_zero, List.set_cons_succ]
            refine take (i := 12) (d := some 41) (v := .pointer (some ⟨b4, o4 + k, none⟩)) rfl (by kernel_rfl) (by kernel_rfl) (by kernel_rfl) (by kernel_rfl) (fun _ _ _ h => h) (Or.inl ⟨by rfl, by intro w hSw; go_simp⟩) hHeld ?_
            simp only [Act.put, List.setIfInBounds_toArray, List.set_cons_zero, List.set_cons_succ]
            refine take (i := 13) (d := some 42) (v := .int .i64 m4) rfl (by kernel_rfl) (by kernel_rfl) (by kernel_rfl) (by kernel_rfl) (fun _ _ _ h => h) (Or.inl ⟨by rfl, by intro w hSw; obtain ⟨p00, p01, p10, p11, g1, g2, g3, g4⟩ := hSw; go_simp⟩) hHeld ?_
            simp only [Act.put, List.setIfInBounds_toArray, List.set_cons_zero, List.set_cons_succ]
            refine take (i := 14) (d := some 43) (v := .int .i64 j) rfl (by kernel_rfl) (by kernel_rfl) (by kernel_rfl) (by kernel_rfl) (fun _ _ _ h => h) (Or.inl ⟨by rfl, by intro w hSw; go_simp⟩) hHeld ?_
            simp only [Act.put, List.setIfInBounds_toArray, List.set_cons_zero, List.set_cons_succ]
            refine wpAnyH_ready (rs := [15]) (by kernel_rfl) (by simp) (Mi.readyCall2 rfl (by kernel_rfl) 67 (.tmp 42) (.tmp 43) 3 3 (by kernel_rfl) 44 (by kernel_rfl) _ _ (by kernel_rfl) (by kernel_rfl) (fun _ => rfl) (H4.out _) (fun wx hb => by rw [hb]; exact hHeld) (fun wx hb hHeld => ?_) AllReadyH.nil)
            subst hb
            simp only [Act.put, List.setIfInBounds_toArray, List.set_cons_zero, List.set_cons_succ]
            refine take (i := 16) (d := some 45) (v := .bool true) rfl (by kernel_rfl) (by kernel_rfl) (by kernel_rfl) (by kernel_rfl) (fun _ _ _ h => h) (Or.inl ⟨by rfl, by intro w hSw; go_simp⟩) hHeld ?_
            simp only [Act.put, List.setIfInBounds_toArray, List.set_cons_zero, List.set_cons_succ]
            refine take (i := 17) (d := some 46) (v := .bool true) rfl (by kernel_rfl) (by kernel_rfl) (by kernel_rfl) (by kernel_rfl) (fun _ _ _ h => h) (Or.inl ⟨by rfl, by intro w hSw; go_simp⟩) hHeld ?_
            simp only [Act.put, List.setIfInBounds_toArray, List.set_cons_zero, List.set_cons_succ]
            refine take (i := 18) (d := some 47) (v := .bool true) rfl (by kernel_rfl) (by kernel_rfl) (by kernel_rfl) (by kernel_rfl) (fun _ _ _ h => h) (Or.inl ⟨by rfl, by intro w hSw; go_simp⟩) hHeld ?_
            simp only [Act.put, List.setIfInBounds_toArray, List.set_cons_zero, List.set_cons_succ]
            refine take (i := 19) (d := some 48) (v := .pointer (some ⟨w.heap.size, 0, none⟩)) rfl (by kernel_rfl) (by kernel_rfl) (by kernel_rfl) (by kernel_rfl) (fun _ _ _ h => h) (Or.inl ⟨by rfl, by intro w hSw; go_simp⟩) hHeld ?_
            simp only [Act.put, List.setIfInBounds_toArray, List.set_cons_zero, List.set_cons_succ]
            refine take (i := 20) (d := some 49) (v := .slice (some ⟨b1, o1, none⟩) 8 c1) rfl (by kernel_rfl) (by kernel_rfl) (by kernel_rfl) (by kernel_rfl) (fun _ _ _ h => h) (Or.inl ⟨by rfl, by intro w hSw; obtain ⟨p00, p01, p10, p11, g1, g2, g3, g4⟩ := hSw; go_simp⟩) hHeld ?_
            simp only [Act.put, List.setIfInBounds_toArray, List.set_cons_zero, List.set_cons_succ]
            refine take (i := 21) (d := some 50) (v := .int .i64 k) rfl (by kernel_rfl) (by kernel_rfl) (by kernel_rfl) (by kernel_rfl) (fun _ _ _ h => h) (Or.inl ⟨by rfl, by intro w hSw; go_simp⟩) hHeld ?_
            simp only [Act.put, List.setIfInBounds_toArray, List.set_cons_zero, List.set_cons_succ]
            refine take (i := 22) (d := some 51) (v := .pointer (some ⟨b1, o1 + k, none⟩)) rfl (by kernel_rfl) (by kernel_rfl) (by kernel_rfl) (by kernel_rfl) (fun _ _ _ h => h) (Or.inl ⟨by rfl, by intro w hSw; go_simp⟩) hHeld ?_
            simp only [Act.put, List.setIfInBounds_toArray, List.set_cons_zero, List.set_cons_succ]
            refine take (i := 23) (d := some 52) (v := .int .i64 m1) rfl (by kernel_rfl) (by kernel_rfl) (by kernel_rfl) (by kernel_rfl) (fun _ _ _ h => h) (Or.inl ⟨by rfl, by intro w hSw; obtain ⟨p00, p01, p10, p11, g1, g2, g3, g4⟩ := hSw; go_simp⟩) hHeld ?_
            simp only [Act.put, List.setIfInBounds_toArray, List.set_cons_zero, List.set_cons_succ]
            refine take (i := 24) (d := some 53) (v := .int .i64 j) rfl (by kernel_rfl) (by kernel_rfl) (by kernel_rfl) (by kernel_rfl) (fun _ _ _ h => h) (Or.inl ⟨by rfl, by intro w hSw; go_simp⟩) hHeld ?_
            simp only [Act.put, List.setIfInBounds_toArray, List.set_cons_zero, List.set_cons_succ]
            refine take (i := 26) (d := some 55) (v := .pointer (some ⟨w.heap.size + 1, 0, none⟩)) rfl (by kernel_rfl) (by kernel_rfl) (by kernel_rfl) (by kernel_rfl) (fun _ _ _ h => h) (Or.inl ⟨by rfl, by intro w hSw; go_simp⟩) hHeld ?_
            simp only [Act.put, List.setIfInBounds_toArray, List.set_cons_zero, List.set_cons_succ]
            refine take (i := 27) (d := some 56) (v := .slice (some ⟨b3, o3, none⟩) 8 c3) rfl (by kernel_rfl) (by kernel_rfl) (by kernel_rfl) (by kernel_rfl) (fun _ _ _ h => h) (Or.inl ⟨by rfl, by intro w hSw; obtain ⟨p00, p01, p10, p11, g1, g2, g3, g4⟩ := hSw; go_simp⟩) hHeld ?_
            simp only [Act.put, List.setIfInBounds_toArray, List.set_cons_zero, List.set_cons_succ]
            refine take (i := 28) (d := some 57) (v := .int .i64 k) rfl (by kernel_rfl) (by kernel_rfl) (by kernel_rfl) (by kernel_rfl) (fun _ _ _ h => h) (Or.inl ⟨by rfl, by intro w hSw; go_simp⟩) hHeld ?_
            simp only [Act.put, List.setIfInBounds_toArray, List.set_cons_zero, List.set_cons_succ]
            refine take (i := 29) (d := some 58) (v := .pointer (some ⟨b3, o3 + k, none⟩)) rfl (by kernel_rfl) (by kernel_rfl) (by kernel_rfl) (by kernel_rfl) (fun _ _ _ h => h) (Or.inl ⟨by rfl, by intro w hSw; go_simp⟩) hHeld ?_
            simp only [Act.put, List.setIfInBounds_toArray, List.set_cons_zero, List.set_cons_succ]
            refine take (i := 30) (d := some 59) (v := .int .i64 m3) rfl (by kernel_rfl) (by kernel_rfl) (by kernel_rfl) (by kernel_rfl) (fun _ _ _ h => h) (Or.inl ⟨by rfl, by intro w hSw; obtain ⟨p00, p01, p10, p11, g1, g2, g3, g4⟩ := hSw; go_simp⟩) hHeld ?_
            simp only [Act.put, List.setIfInBounds_toArray, List.set_cons_zero, List.set_cons_succ]
            refine take (i := 31) (d := some 60) (v := .int .i64 j) rfl (by kernel_rfl) (by kernel_rfl) (by kernel_rfl) (by kernel_rfl) (fun _ _ _ h => h) (Or.inl ⟨by rfl, by intro w hSw; go_simp⟩) hHeld ?_
            simp only [Act.put, List.setIfInBounds_toArray, List.set_cons_zero, List.set_cons_succ]
            refine wpAnyH_ready (rs := [25]) (by kernel_rfl) (by simp) (Mi.readyCall2 rfl (by kernel_rfl) 67 (.tmp 52) (.tmp 53) 3 3 (by kernel_rfl) 54 (by kernel_rfl) _ _ (by kernel_rfl) (by kernel_rfl) (fun _ => rfl) (H1.out _) (fun wx hb => by rw [hb]; exact hHeld) (fun wx hb hHeld => ?_) AllReadyH.nil)
            subst hb
            simp only [Act.put, List.setIfInBounds_toArray, List.set_cons_zero, List.set_cons_succ]
            refine wpAnyH_ready (rs := [32]) (by kernel_rfl) (by simp) (Mi.readyCall2 rfl (by kernel_rfl) 67 (.tmp 59) (.tmp 60) 3 3 (by kernel_rfl) 61 (by kernel_rfl) _ _ (by kernel_rfl) (by kernel_rfl) (fun _ => rfl) (H3.out _) (fun wx hb => by rw [hb]; exact hHeld) (fun wx hb hHeld => ?_) AllReadyH.nil)
            subst hb
            simp only [Act.put, List.setIfInBounds_toArray, List.set_cons_zero, List.set_cons_succ]
            refine take (i := 33) (d := some 62) (v := .bool false) rfl (by kernel_rfl) (by kernel_rfl) (by kernel_rfl) (by kernel_rfl) (fun _ _ _ h => h) (Or.inl ⟨by rfl, by intro w hSw; go_simp⟩) hHeld ?_
            simp only [Act.put, List.setIfInBounds_toArray, List.set_cons_zero, List.set_cons_succ]
            refine take (i := 34) (d := some 63) (v := .bool false) rfl (by kernel_rfl) (by kernel_rfl) (by kernel_rfl) (by kernel_rfl) (fun _ _ _ h => h) (Or.inl ⟨by rfl, by intro w hSw; go_simp⟩) hHeld ?_
            simp only [Act.put, List.setIfInBounds_toArray, List.set_cons_zero, List.set_cons_succ]
            refine wpAnyH_done (by kernel_rfl) ?_ _
            go_wp2
            go_roundw
            case rel => exact ⟨j + 1, by omega, by go_num, hbi.drew, HY.out (fun _ _ => U.out)⟩
            case measure => simp [intOf]; omega
          · have U : Hid (x2 = 1 ∧ x4 = 1 ∧ ¬ x1 = x3) := ⟨u, v, t⟩
            have f1 : (x2 == 1) = true := by rw [u]; rfl
            have f2 : (x4 == 1) = true := by rw [v]; rfl
            have f3 : (x1 != x3) = true := by simpa using t
            clear u v t y1 y2 y3 y4
            refine wp_region_held_drew (S := (fun w' => w'.cell? ⟨w.heap.size, 0, none⟩ = some (.slice (some ⟨b1, o1, none⟩) 8 c1) ∧ w'.cell? ⟨w.heap.size, 1, none⟩ = some (.slice (some ⟨b2, o2, none⟩) 8 c2) ∧ w'.cell? ⟨w.heap.size + 1, 0, none⟩ = some (.slice (some ⟨b3, o3, none⟩) 8 c3) ∧ w'.cell? ⟨w.heap.size + 1, 1, none⟩ = some (.slice (some ⟨b4, o4, none⟩) 8 c4) ∧ w'.cell? ⟨b1, o1 + k, none⟩ = some (.int .i64 m1) ∧ w'.cell? ⟨b2, o2 + k, none⟩ = some (.int .i64 m2) ∧ w'.cell? ⟨b3, o3 + k, none⟩ = some (.int .i64 m3) ∧ w'.cell? ⟨b4, o4 + k, none⟩ = some (.int .i64 m4))) (by kernel_rfl) ⟨p00, p01, p10, p11, g1, g2, g3, g4⟩ (fun hHeld => ?_)
            refine take (i := 0) (d := some 29) (v := .pointer (some ⟨w.heap.size, 1, none⟩)) rfl (by kernel_rfl) (by kernel_rfl) (by kernel_rfl) (by kernel_rfl) (fun _ _ _ h => h) (Or.inl ⟨by rfl, by intro w hSw; go_simp⟩) hHeld ?_
            simp only [Act.put, List.setIfInBounds_toArray, List.set_cons_zero, List.set_cons_succ]
            refine take (i := 1) (d := some 30) (v := .slice (some ⟨b2, o2, none⟩) 8 c2) rfl (by kernel_rfl) (by kernel_rfl) (by kernel_rfl) (by kernel_rfl) (fun _ _ _ h => h) (Or.inl ⟨by rfl, by intro w hSw; obtain ⟨p00, p01, p10, p11, g1, g2, g3, g4⟩ := hSw; go_simp⟩) hHeld ?_
            simp only [Act.put, List.setIfInBounds_toArray, List.set_cons_zero, List.set_cons_succ]
            refine take (i := 2) (d := some 31) (v := .int .i64 k) rfl (by kernel_rfl) (by kernel_rfl) (by kernel_rfl) (by kernel_rfl) (fun _ _ _ h => h) (Or.inl ⟨by rfl, by intro w hSw; go_simp⟩) hHeld ?_
            simp only [Act.put, List.setIfInBounds_toArray, List.set_cons_zero, List.set_cons_succ]
            refine take (i := 3) (d := some 32) (v := .pointer (some ⟨b2, o2 + k, none⟩)) rfl (by kernel_rfl) (by kernel_rfl) (by kernel_rfl) (by kernel_rfl) (fun _ _ _ h => h) (Or.inl ⟨by rfl, by intro w hSw; go_simp⟩) hHeld ?_
            simp only [Act.put, List.setIfInBounds_toArray, List.set_cons_zero, List.set_cons_succ]
            refine take (i := 4) (d := some 33) (v := .int .i64 m2) rfl (by kernel_rfl) (by kernel_rfl) (by kernel_rfl) (by kernel_rfl) (fun _ _ _ h => h) (Or.inl ⟨by rfl, by intro w hSw; obtain ⟨p00, p01, p10, p11, g1, g2, g3, g4⟩ := hSw; go_simp⟩) hHeld ?_
            simp only [Act.put, List.setIfInBounds_toArray, List.set_cons_zero, List.set_cons_succ]
            refine take (i := 5) (d := some 34) (v := .int .i64 j) rfl (by kernel_rfl) (by kernel_rfl) (by kernel_rfl) (by kernel_rfl) (fun _ _ _ h => h) (Or.inl ⟨by rfl, by intro w hSw; go_simp⟩) hHeld ?_
            simp only [Act.put, List.setIfInBounds_toArray, List.set_cons_zero, List.set_cons_succ]
            refine wpAnyH_ready (rs := [6]) (by kernel_rfl) (by simp) (Mi.readyCall2 rfl (by kernel_rfl) 67 (.tmp 33) (.tmp 34) 3 3 (by kernel_rfl) 35 (by kernel_rfl) _ _ (by kernel_rfl) (by kernel_rfl) (fun _ => rfl) (H2.out _) (fun wx hb => by rw [hb]; exact hHeld) (fun wx hb hHeld => ?_) AllReadyH.nil)
            subst hb
            simp only [Act.put, List.setIfInBounds_toArray, List.set_cons_zero, List.set_cons_succ]
            refine take (i := 7) (d := some 36) (v := .bool true) rfl (by kernel_rfl) (by kernel_rfl) (by kernel_rfl) (by kernel_rfl) (fun _ _ _ h => h) (Or.inl ⟨by rfl, by intro w hSw; go_simp⟩) hHeld ?_
            simp only [Act.put, List.setIfInBounds_toArray, List.set_cons_zero, List.set_cons_succ]
            refine take (i := 8) (d := some 37) (v := .bool true) rfl (by kernel_rfl) (by kernel_rfl) (by kernel_rfl) (by kernel_rfl) (fun _ _ _ h => h) (Or.inl ⟨by rfl, by intro w hSw; go_simp⟩) hHeld ?_
            simp only [Act.put, List.setIfInBounds_toArray, List.set_cons_zero, List.set_cons_succ]
            refine take (i := 9) (d := some 38) (v := .pointer (some ⟨w.heap.size + 1, 1, none⟩)) rfl (by kernel_rfl) (by kernel_rfl) (by kernel_rfl) (by kernel_rfl) (fun _ _ _ h => h) (Or.inl ⟨by rfl, by intro w hSw; go_simp⟩) hHeld ?_
            simp only [Act.put, List.setIfInBounds_toArray, List.set_cons_zero, List.set_cons_succ]
            refine take (i := 10) (d := some 39) (v := .slice (some ⟨b4, o4, none⟩) 8 c4) rfl (by kernel_rfl) (by kernel_rfl) (by kernel_rfl) (by kernel_rfl) (fun _ _ _ h => h) (Or.inl ⟨by rfl, by intro w hSw; obtain ⟨p00, p01, p10, p11, g1, g2, g3, g4⟩ := hSw; go_simp⟩) hHeld ?_
            simp only [Act.put, List.setIfInBounds_toArray, List.set_cons_zero, List.set_cons_succ]
            refine take (i := 11) (d := some 40) (v := .int .i64 k) rfl (by kernel_rfl) (by kernel_rfl) (by kernel_rfl) (by kernel_rfl) (fun _ _ _ h => h) (Or.inl ⟨by rfl, by intro w hSw; go_simp⟩) hHeld ?_
            simp only [Act.put, List.setIfInBounds_toArray, List.set_cons_zero, List.set_cons_succ]
            refine take (i := 12) (d := some 41) (v := .pointer (some ⟨b4, o4 + k, none⟩)) rfl (by kernel_rfl) (by kernel_rfl) (by kernel_rfl) (by kernel_rfl) (fun _ _ _ h => h) (Or.inl ⟨by rfl, by intro w hSw; go_simp⟩) hHeld ?_
            simp only [Act.put, List.setIfInBounds_toArray, List.set_cons_zero, List.set_cons_succ]
            refine take (i := 13) (d := some 42) (v := .int .i64 m4) rfl (by kernel_rfl) (by kernel_rfl) (by kernel_rfl) (by kernel_rfl) (fun _ _ _ h => h) (Or.inl ⟨by rfl, by intro w hSw; obtain ⟨p00, p01, p10, p11, g1, g2, g3, g4⟩ := hSw; go_simp⟩) hHeld ?_
            simp only [Act.put, List.setIfInBounds_toArray, List.set_cons_zero, List.set_cons_succ]
            refine take (i := 14) (d := some 43) (v := .int .i64 j) rfl (by kernel_rfl) (by kernel_rfl) (by kernel_rfl) (by kernel_rfl) (fun _ _ _ h => h) (Or.inl ⟨by rfl, by intro w hSw; go_simp⟩) hHeld ?_
            simp only [Act.put, List.setIfInBounds_toArray, List.set_cons_zero, List.set_cons_succ]
            refine wpAnyH_ready (rs := [15]) (by kernel_rfl) (by simp) (Mi.readyCall2 rfl (by kernel_rfl) 67 (.tmp 42) (.tmp 43) 3 3 (by kernel_rfl) 44 (by kernel_rfl) _ _ (by kernel_rfl) (by kernel_rfl) (fun _ => rfl) (H4.out _) (fun wx hb => by rw [hb]; exact hHeld) (fun wx hb hHeld => ?_) AllReadyH.nil)
            subst hb
            simp only [Act.put, List.setIfInBounds_toArray, List.set_cons_zero, List.set_cons_succ]
            refine take (i := 16) (d := some 45) (v := .bool true) rfl (by kernel_rfl) (by kernel_rfl) (by kernel_rfl) (by kernel_rfl) (fun _ _ _ h => h) (Or.inl ⟨by rfl, by intro w hSw; go_simp⟩) hHeld ?_
            simp only [Act.put, List.setIfInBounds_toArray, List.set_cons_zero, List.set_cons_succ]
            refine take (i := 17) (d := some 46) (v := .bool true) rfl (by kernel_rfl) (by kernel_rfl) (by kernel_rfl) (by kernel_rfl) (fun _ _ _ h => h) (Or.inl ⟨by rfl, by intro w hSw; go_simp⟩) hHeld ?_
            simp only [Act.put, List.setIfInBounds_toArray, List.set_cons_zero, List.set_cons_succ]
            refine take (i := 18) (d := some 47) (v := .bool true) rfl (by kernel_rfl) (by kernel_rfl) (by kernel_rfl) (by kernel_rfl) (fun _ _ _ h => h) (Or.inl ⟨by rfl, by intro w hSw; go_simp⟩) hHeld ?_
            simp only [Act.put, List.setIfInBounds_toArray, List.set_cons_zero, List.set_cons_succ]
            refine take (i := 19) (d := some 48) (v := .pointer (some ⟨w.heap.size, 0, none⟩)) rfl (by kernel_rfl) (by kernel_rfl) (by kernel_rfl) (by kernel_rfl) (fun _ _ _ h => h) (Or.inl ⟨by rfl, by intro w hSw; go_simp⟩) hHeld ?_
            simp only [Act.put, List.setIfInBounds_toArray, List.set_cons_zero, List.set_cons_succ]
            refine take (i := 20) (d := some 49) (v := .slice (some ⟨b1, o1, none⟩) 8 c1) rfl (by kernel_rfl) (by kernel_rfl) (by kernel_rfl) (by kernel_rfl) (fun _ _ _ h => h) (Or.inl ⟨by rfl, by intro w hSw; obtain ⟨p00, p01, p10, p11, g1, g2, g3, g4⟩ := hSw; go_simp⟩) hHeld ?_
            simp only [Act.put, List.setIfInBounds_toArray, List.set_cons_zero, List.set_cons_succ]
            refine take (i := 21) (d := some 50) (v := .int .i64 k) rfl (by kernel_rfl) (by kernel_rfl) (by kernel_rfl) (by kernel_rfl) (fun _ _ _ h => h) (Or.inl ⟨by rfl, by intro w hSw; go_simp⟩) hHeld ?_
            simp only [Act.put, List.setIfInBounds_toArray, List.set_cons_zero, List.set_cons_succ]
            refine take (i := 22) (d := some 51) (v := .pointer (some ⟨b1, o1 + k, none⟩)) rfl (by kernel_rfl) (by kernel_rfl) (by kernel_rfl) (by kernel_rfl) (fun _ _ _ h => h) (Or.inl ⟨by rfl, by intro w hSw; go_simp⟩) hHeld ?_
            simp only [Act.put, List.setIfInBounds_toArray, List.set_cons_zero, List.set_cons_succ]
            refine take (i := 23) (d := some 52) (v := .int .i64 m1) rfl (by kernel_rfl) (by kernel_rfl) (by kernel_rfl) (by kernel_rfl) (fun _ _ _ h => h) (Or.inl ⟨by rfl, by intro w hSw; obtain ⟨p00, p01, p10, p11, g1, g2, g3, g4⟩ := hSw; go_simp⟩) hHeld ?_
            simp only [Act.put, List.setIfInBounds_toArray, List.set_cons_zero, List.set_cons_succ]
            refine take (i := 24) (d := some 53) (v := .int .i64 j) rfl (by kernel_rfl) (by kernel_rfl) (by kernel_rfl) (by kernel_rfl) (fun _ _ _ h => h) (Or.inl ⟨by rfl, by intro w hSw; go_simp⟩) hHeld ?_
            simp only [Act.put, List.setIfInBounds_toArray, List.set_cons_zero, List.set_cons_succ]
            refine take (i := 26) (d := some 55) (v := .pointer (some ⟨w.heap.size + 1, 0, none⟩)) rfl (by kernel_rfl) (by kernel_rfl) (by kernel_rfl) (by kernel_rfl) (fun _ _ _ h => h) (Or.inl ⟨by rfl, by intro w hSw; go_simp⟩) hHeld ?_
            simp only [Act.put, List.setIfInBounds_toArray, List.set_cons_zero, List.set_cons_succ]
            refine take (i := 27) (d := some 56) (v := .slice (some ⟨b3, o3, none⟩) 8 c3) rfl (by kernel_rfl) (by kernel_rfl) (by kernel_rfl) (by kernel_rfl) (fun _ _ _ h => h) (Or.inl ⟨by rfl, by intro w hSw; obtain ⟨p00, p01, p10, p11, g1, g2, g3, g4⟩ := hSw; go_simp⟩) hHeld ?_
            simp only [Act.put, List.setIfInBounds_toArray, List.set_cons_zero, List.set_cons_succ]
            refine take (i := 28) (d := some 57) (v := .int .i64 k) rfl (by kernel_rfl) (by kernel_rfl) (by kernel_rfl) (by kernel_rfl) (fun _ _ _ h => h) (Or.inl ⟨by rfl, by intro w hSw; go_simp⟩) hHeld ?_
            simp only [Act.put, List.setIfInBounds_toArray, List.set_cons_zero, List.set_cons_succ]
            refine take (i := 29) (d := some 58) (v := .pointer (some ⟨b3, o3 + k, none⟩)) rfl (by kernel_rfl) (by kernel_rfl) (by kernel_rfl) (by kernel_rfl) (fun _ _ _ h => h) (Or.inl ⟨by rfl, by intro w hSw; go_simp⟩) hHeld ?_
            simp only [Act.put, List.setIfInBounds_toArray, List.set_cons_zero, List.set_cons_succ]
            refine take (i := 30) (d := some 59) (v := .int .i64 m3) rfl (by kernel_rfl) (by kernel_rfl) (by kernel_rfl) (by kernel_rfl) (fun _ _ _ h => h) (Or.inl ⟨by rfl, by intro w hSw; obtain ⟨p00, p01, p10, p11, g1, g2, g3, g4⟩ := hSw; go_simp⟩) hHeld ?_
            simp only [Act.put, List.setIfInBounds_toArray, List.set_cons_zero, List.set_cons_succ]
            refine take (i := 31) (d := some 60) (v := .int .i64 j) rfl (by kernel_rfl) (by kernel_rfl) (by kernel_rfl) (by kernel_rfl) (fun _ _ _ h => h) (Or.inl ⟨by rfl, by intro w hSw; go_simp⟩) hHeld ?_
            simp only [Act.put, List.setIfInBounds_toArray, List.set_cons_zero, List.set_cons_succ]
            refine wpAnyH_ready (rs := [25]) (by kernel_rfl) (by simp) (Mi.readyCall2 rfl (by kernel_rfl) 67 (.tmp 52) (.tmp 53) 3 3 (by kernel_rfl) 54 (by kernel_rfl) _ _ (by kernel_rfl) (by kernel_rfl) (fun _ => rfl) (H1.out _) (fun wx hb => by rw [hb]; exact hHeld) (fun wx hb hHeld => ?_) AllReadyH.nil)
            subst hb
            simp only [Act.put, List.setIfInBounds_toArray, List.set_cons_zero, List.set_cons_succ]
            refine wpAnyH_ready (rs := [32]) (by kernel_rfl) (by simp) (Mi.readyCall2 rfl (by kernel_rfl) 67 (.tmp 59) (.tmp 60) 3 3 (by kernel_rfl) 61 (by kernel_rfl) _ _ (by kernel_rfl) (by kernel_rfl) (fun _ => rfl) (H3.out _) (fun wx hb => by rw [hb]; exact hHeld) (fun wx hb hHeld => ?_) AllReadyH.nil)
            subst hb
            simp only [Act.put, List.setIfInBounds_toArray, List.set_cons_zero, List.set_cons_succ]
            refine take (i := 33) (d := some 62) (v := .bool true) rfl (by kernel_rfl) (by kernel_rfl) (by kernel_rfl) (by kernel_rfl) (fun _ _ _ h => h) (Or.inl ⟨by rfl, by intro w hSw; go_simp⟩) hHeld ?_
            simp only [Act.put, List.setIfInBounds_toArray, List.set_cons_zero, List.set_cons_succ]
            refine take (i := 34) (d := some 63) (v := .bool true) rfl (by kernel_rfl) (by kernel_rfl) (by kernel_rfl) (by kernel_rfl) (fun _ _ _ h => h) (Or.inl ⟨by rfl, by intro w hSw; go_simp⟩) hHeld ?_
            simp only [Act.put, List.setIfInBounds_toArray, List.set_cons_zero, List.set_cons_succ]
            refine wpAnyH_done (by kernel_rfl) ?_ _
            go_wp2
            have hr := HN.out (fun h => U.out.2.2 (h U.out.1 U.out.2.1))
            obtain ⟨rfl, rfl⟩ := Y0.out hr
            rw [hr]
            refine bodyPost_ret (v := .tuple #[.agg #[.slice none 0 0, .slice none 0 0], .bool false]) (by simp [results, Try.results71, go_sem, s0, s1]) rfl (resMB_none ?_)
            exact (bset (bset hbel (by omega)) (by omega)).drew
        · have he : j = Bw.fbN k := by omega
          have hjz : ¬ ((j : Int) < (Bw.fbN k : Int)) := by omega
          have HY : Hid (∀ f, f < k + 1 → ∀ i, i < Bw.fbN f → (Bw.bitI (M.getD f 0) i = 1 → Bw.bitI (M'.getD f 0) i = 1 → Bw.bitI (V.getD f 0) i = Bw.bitI (V'.getD f 0) i)) := (fun f hf => by by_cases e : f = k; (· subst e; intro i hi; exact HI.out i (by omega)); (· exact HG.out f (by omega)) : ∀ f, f < k + 1 → ∀ i, i < Bw.fbN f → (Bw.bitI (M.getD f 0) i = 1 → Bw.bitI (M'.getD f 0) i = 1 → Bw.bitI (V.getD f 0) i = Bw.bitI (V'.getD f 0) i))
          clear HI HG he D1 D2 D3 D4
          go_wp2_with (go_at_call 66; refine (HF.out _).mono ?_; rintro e ws ⟨rfl, hb⟩; replace hbi := Rw.next hbi hb; clear hb)
          have hbel := Rw.next hbo hbi
          replace q0 := (hbi.block _ z0).trans q0
          replace q1 := (hbi.block _ z1).trans q1
          replace qR := (hbi.block _ zR).trans qR
          replace qX := (hbi.block _ zX).trans qX
          replace hv := hv.below hbi
          replace hm := hm.below hbi
          obtain ⟨p00, p01⟩ := two q0
          obtain ⟨p10, p11⟩ := two q1
          obtain ⟨x0, x1⟩ := two qX
          have g1 : ws.cell? ⟨b1, o1 + k, none⟩ = some (.int .i64 (V.getD k 0)) := (hbel.cell (World.block_lt_of_cell? _ _ (R1.out k hlt))).trans (R1.out k hlt)
          have g2 : ws.cell? ⟨b2, o2 + k, none⟩ = some (.int .i64 (M.getD k 0)) := (hbel.cell (World.block_lt_of_cell? _ _ (R2.out k hlt))).trans (R2.out k hlt)
          have g3 : ws.cell? ⟨b3, o3 + k, none⟩ = some (.int .i64 (V'.getD k 0)) := (hbel.cell (World.block_lt_of_cell? _ _ (R3.out k hlt))).trans (R3.out k hlt)
          have g4 : ws.cell? ⟨b4, o4 + k, none⟩ = some (.int .i64 (M'.getD k 0)) := (hbel.cell (World.block_lt_of_cell? _ _ (R4.out k hlt))).trans (R4.out k hlt)
          have hl := HLT.out k hlt
          obtain ⟨hl1, hl2, hl3, hl4⟩ := hl
          have cV1 := hv.cell k (by rw [lst_len]; exact hlt)
          have cM1 := hm.cell k (by rw [lst_len]; exact hlt)
          have fV := hv.free k (by rw [lst_len]; exact hlt)
          have fM := hm.free k (by rw [lst_len]; exact hlt)
          have gVx : Hid (Wt ws (some ⟨gV, 0, none⟩) gV (lst (cut nv nul k))) := hv
          have gMx : Hid (Wt ws (some ⟨gM, 0, none⟩) gM (lst (cut nm nul k))) := hm
          have Q0 : Hid (ws.heap[w.heap.size]? = some (.cells #[.slice (some ⟨b1, o1, none⟩) 8 c1, .slice (some ⟨b2, o2, none⟩) 8 c2] 25 (0, 0))) := q0
          have Q1 : Hid (ws.heap[w.heap.size + 1]? = some (.cells #[.slice (some ⟨b3, o3, none⟩) 8 c3, .slice (some ⟨b4, o4, none⟩) 8 c4] 25 (0, 0))) := q1
          have QR : Hid (ws.heap[w.heap.size + 1 + 1]? = some (.cells #[.slice none 0 0, .slice none 0 0] 25 (0, 0))) := qR
          have QX : Hid (ws.heap[X]? = some (.cells #[.slice (some ⟨gV, 0, none⟩) 8 cV, .slice (some ⟨gM, 0, none⟩) 8 cM] 25 (0, 0))) := qX
          have EV : Hid (nv k = bits .or .i64 (V.getD k 0) (V'.getD k 0)) := NV.out k
          have EM : Hid (nm k = bits .or .i64 (M.getD k 0) (M'.getD k 0)) := NM.out k
          clear q0 q1 qR qX hv hm HLT R1 R2 R3 R4
          generalize V.getD k 0 = m1 at g1 EV EM
          generalize M.getD k 0 = m2 at g2 EV EM
          generalize V'.getD k 0 = m3 at g3 EV EM
          generalize M'.getD k 0 = m4 at g4 EV EM
          have d1 : gV ≠ w.heap.size := by omega
          have d2 : gV ≠ w.heap.size + 1 := by omega
          have d3 : gM ≠ w.heap.size := by omega
          have d4 : gM ≠ w.heap.size + 1 := by omega
          have d5 : gV ≠ X := by omega
          have d6 : gM ≠ X := by omega
          have d7 : b1 ≠ gV := by omega
          have d8 : b2 ≠ gV := by omega
          have d9 : b3 ≠ gV := by omega
          have d10 : b4 ≠ gV := by omega
          have d11 : b1 ≠ gM := by omega
          have d12 : b2 ≠ gM := by omega
          have d13 : b3 ≠ gM := by omega
          have d14 : b4 ≠ gM := by omega
          have d15 : w.heap.size + 1 + 1 ≠ gV := by omega
          have d16 : w.heap.size + 1 + 1 ≠ gM := by omega
          go_wp2
          refine wp_region_held_drew (S := (fun w' => w'.cell? ⟨w.heap.size, 0, none⟩ = some (.slice (some ⟨b1, o1, none⟩) 8 c1) ∧ w'.cell? ⟨w.heap.size, 1, none⟩ = some (.slice (some ⟨b2, o2, none⟩) 8 c2) ∧ w'.cell? ⟨w.heap.size + 1, 0, none⟩ = some (.slice (some ⟨b3, o3, none⟩) 8 c3) ∧ w'.cell? ⟨w.heap.size + 1, 1, none⟩ = some (.slice (some ⟨b4, o4, none⟩) 8 c4) ∧ w'.cell? ⟨X, 0, none⟩ = some (.slice (some ⟨gV, 0, none⟩) 8 cV) ∧ w'.cell? ⟨X, 1, none⟩ = some (.slice (some ⟨gM, 0, none⟩) 8 cM) ∧ w'.cell? ⟨b1, o1 + k, none⟩ = some (.int .i64 m1) ∧ w'.cell? ⟨b2, o2 + k, none⟩ = some (.int .i64 m2) ∧ w'.cell? ⟨b3, o3 + k, none⟩ = some (.int .i64 m3) ∧ w'.cell? ⟨b4, o4 + k, none⟩ = some (.int .i64 m4))) (by kernel_rfl) ⟨p00, p01, p10, p11, x0, x1, g1, g2, g3, g4⟩ (fun hHeld => ?_)
          refine take (i := 0) (d := some 65) (v := .pointer (some ⟨X, 1, none⟩)) rfl (by kernel_rfl) (by kernel_rfl) (by kernel_rfl) (by kernel_rfl) (fun _ _ _ h => h) (Or.inl ⟨by rfl, by intro w hSw; go_simp⟩) hHeld ?_
          simp only [Act.put, List.setIfInBounds_toArray, List.set_cons_zero, List.set_cons_succ]
          refine take (i := 1) (d := some 66) (v := .slice (some ⟨gM, 0, none⟩) 8 cM) rfl (by kernel_rfl) (by kernel_rfl) (by kernel_rfl) (by kernel_rfl) (fun _ _ _ h => h) (Or.inl ⟨by rfl, by intro w hSw; obtain ⟨p00, p01, p10, p11, x0, x1, g1, g2, g3, g4⟩ := hSw; go_simp⟩) hHeld ?_
          simp only [Act.put, List.setIfInBounds_toArray, List.set_cons_zero, List.set_cons_succ]
          refine take (i := 2) (d := some 67) (v := .int .i64 k) rfl (by kernel_rfl) (by kernel_rfl) (by kernel_rfl) (by kernel_rfl) (fun _ _ _ h => h) (Or.inl ⟨by rfl, by intro w hSw; go_simp⟩) hHeld ?_
          simp only [Act.put, List.setIfInBounds_toArray, List.set_cons_zero, List.set_cons_succ]
          refine take (i := 3) (d := some 68) (v := .pointer (some ⟨w.heap.size, 1, none⟩)) rfl (by kernel_rfl) (by kernel_rfl) (by kernel_rfl) (by kernel_rfl) (fun _ _ _ h => h) (Or.inl ⟨by rfl, by intro w hSw; go_simp⟩) hHeld ?_
          simp only [Act.put, List.setIfInBounds_toArray, List.set_cons_zero, List.set_cons_succ]
          refine take (i := 4) (d := some 69) (v := .slice (some ⟨b2, o2, none⟩) 8 c2) rfl (by kernel_rfl) (by kernel_rfl) (by kernel_rfl) (by kernel_rfl) (fun _ _ _ h => h) (Or.inl ⟨by rfl, by intro w hSw; obtain ⟨p00, p01, p10, p11, x0, x1, g1, g2, g3, g4⟩ := hSw; go_simp⟩) hHeld ?_
          simp only [Act.put, List.setIfInBounds_toArray, List.set_cons_zero, List.set_cons_succ]
          refine take (i := 5) (d := some 70) (v := .int .i64 k) rfl (by kernel_rfl) (by kernel_rfl) (by kernel_rfl) (by kernel_rfl) (fun _ _ _ h => h) (Or.inl ⟨by rfl, by intro w hSw; go_simp⟩) hHeld ?_
          simp only [Act.put, List.setIfInBounds_toArray, List.set_cons_zero, List.set_cons_succ]
          refine take (i := 6) (d := some 71) (v := .pointer (some ⟨b2, o2 + k, none⟩)) rfl (by kernel_rfl) (by kernel_rfl) (by kernel_rfl) (by kernel_rfl) (fun _ _ _ h => h) (Or.inl ⟨by rfl, by intro w hSw; go_simp⟩) hHeld ?_
          simp only [Act.put, List.setIfInBounds_toArray, List.set_cons_zero, List.set_cons_succ]
          refine take (i := 7) (d := some 72) (v := .int .i64 m2) rfl (by kernel_rfl) (by kernel_rfl) (by kernel_rfl) (by kernel_rfl) (fun _ _ _ h => h) (Or.inl ⟨by rfl, by intro w hSw; obtain ⟨p00, p01, p10, p11, x0, x1, g1, g2, g3, g4⟩ := hSw; go_simp⟩) hHeld ?_
          simp only [Act.put, List.setIfInBounds_toArray, List.set_cons_zero, List.set_cons_succ]
          refine take (i := 8) (d := some 73) (v := .pointer (some ⟨w.heap.size + 1, 1, none⟩)) rfl (by kernel_rfl) (by kernel_rfl) (by kernel_rfl) (by kernel_rfl) (fun _ _ _ h => h) (Or.inl ⟨by rfl, by intro w hSw; go_simp⟩) hHeld ?_
          simp only [Act.put, List.setIfInBounds_toArray, List.set_cons_zero, List.set_cons_succ]
          refine take (i := 9) (d := some 74) (v := .slice (some ⟨b4, o4, none⟩) 8 c4) rfl (by kernel_rfl) (by kernel_rfl) (by kernel_rfl) (by kernel_rfl) (fun _ _ _ h => h) (Or.inl ⟨by rfl, by intro w hSw; obtain ⟨p00, p01, p10, p11, x0, x1, g1, g2, g3, g4⟩ := hSw; go_simp⟩) hHeld ?_
          simp only [Act.put, List.setIfInBounds_toArray, List.set_cons_zero, List.set_cons_succ]
          refine take (i := 10) (d := some 75) (v := .int .i64 k) rfl (by kernel_rfl) (by kernel_rfl) (by kernel_rfl) (by kernel_rfl) (fun _ _ _ h => h) (Or.inl ⟨by rfl, by intro w hSw; go_simp⟩) hHeld ?_
          simp only [Act.put, List.setIfInBounds_toArray, List.set_cons_zero, List.set_cons_succ]
          refine take (i := 11) (d := some 76) (v := .pointer (some ⟨b4, o4 + k, none⟩)) rfl (by kernel_rfl) (by kernel_rfl) (by kernel_rfl) (by kernel_rfl) (fun _ _ _ h => h) (Or.inl ⟨by rfl, by intro w hSw; go_simp⟩) hHeld ?_
          simp only [Act.put, List.setIfInBounds_toArray, List.set_cons_zero, List.set_cons_succ]
          refine take (i := 12) (d := some 77) (v := .int .i64 m4) rfl (by kernel_rfl) (by kernel_rfl) (by kernel_rfl) (by kernel_rfl) (fun _ _ _ h => h) (Or.inl ⟨by rfl, by intro w hSw; obtain ⟨p00, p01, p10, p11, x0, x1, g1, g2, g3, g4⟩ := hSw; go_simp⟩) hHeld ?_
          simp only [Act.put, List.setIfInBounds_toArray, List.set_cons_zero, List.set_cons_succ]
          refine take (i := 13) (d := some 78) (v := .int .i64 (bits .or .i64 m2 m4)) rfl (by kernel_rfl) (by kernel_rfl) (by kernel_rfl) (by kernel_rfl) (fun _ _ _ h => h) (Or.inl ⟨by rfl, by intro w hSw; go_simp⟩) hHeld ?_
          simp only [Act.put, List.setIfInBounds_toArray, List.set_cons_zero, List.set_cons_succ]
          refine take (i := 14) (d := some 79) (v := .pointer (some ⟨gM, k, none⟩)) rfl (by kernel_rfl) (by kernel_rfl) (by kernel_rfl) (by kernel_rfl) (fun _ _ _ h => h) (Or.inl ⟨by rfl, by intro w hSw; go_simp⟩) hHeld ?_
          simp only [Act.put, List.setIfInBounds_toArray, List.set_cons_zero, List.set_cons_succ]
          refine wpAnyH_ready (rs := [15]) (by kernel_rfl) (by simp) (ready3 (g := gM) (k := k) (v := bits .or .i64 m2 m4) rfl (by kernel_rfl) (.tmp 79) (.tmp 78) (by kernel_rfl) (by kernel_rfl) (by kernel_rfl) (by kernel_rfl) cM1 fM ⟨cell_set1 p00 (by simp; omega), cell_set1 p01 (by simp; omega), cell_set1 p10 (by simp; omega), cell_set1 p11 (by simp; omega), cell_set1 x0 (by simp; omega), cell_set1 x1 (by simp; omega), cell_set1 g1 (by simp; omega), cell_set1 g2 (by simp; omega), cell_set1 g3 (by simp; omega), cell_set1 g4 (by simp; omega)⟩ (fun hHeld => ?_) AllReadyH.nil)
          simp only [Act.put, List.setIfInBounds_toArray, List.set_cons_zero, List.set_cons_succ]
          refine wpAnyH_done (by kernel_rfl) ?_ _
          obtain ⟨wy, hwy⟩ : ∃ wy, wy = ws.drew.setCell ⟨gM, k, none⟩ (.int .i64 (bits .or .i64 m2 m4)) := ⟨_, rfl⟩
          rw [← hwy]
          replace p00 := (by subst hwy; exact cell_set1 p00 (by simp; omega) : wy.cell? _ = _)
          replace p01 := (by subst hwy; exact cell_set1 p01 (by simp; omega) : wy.cell? _ = _)
          replace p10 := (by subst hwy; exact cell_set1 p10 (by simp; omega) : wy.cell? _ = _)
          replace p11 := (by subst hwy; exact cell_set1 p11 (by simp; omega) : wy.cell? _ = _)
          replace x0 := (by subst hwy; exact cell_set1 x0 (by simp; omega) : wy.cell? _ = _)
          replace x1 := (by subst hwy; exact cell_set1 x1 (by simp; omega) : wy.cell? _ = _)
          replace g1 := (by subst hwy; exact cell_set1 g1 (by simp; omega) : wy.cell? _ = _)
          replace g2 := (by subst hwy; exact cell_set1 g2 (by simp; omega) : wy.cell? _ = _)
          replace g3 := (by subst hwy; exact cell_set1 g3 (by simp; omega) : wy.cell? _ = _)
          replace g4 := (by subst hwy; exact cell_set1 g4 (by simp; omega) : wy.cell? _ = _)
          replace cV1 := (by subst hwy; exact cell_set1 cV1 (by simp; omega) : wy.cell? _ = _)
          replace fV : wy.frozen? ⟨gV, k, none⟩ = false := by subst hwy; simpa using fV
          replace hbel : Below w.heap.size w wy := by subst hwy; exact bset hbel.drew (by omega)
          replace Q0 : Hid (wy.heap[w.heap.size]? = some (.cells #[.slice (some ⟨b1, o1, none⟩) 8 c1, .slice (some ⟨b2, o2, none⟩) 8 c2] 25 (0, 0))) := (by subst hwy; exact blk_set Q0.out (Ne.symm d3) : wy.heap[w.heap.size]? = some (.cells #[.slice (some ⟨b1, o1, none⟩) 8 c1, .slice (some ⟨b2, o2, none⟩) 8 c2] 25 (0, 0)))
          replace Q1 : Hid (wy.heap[w.heap.size + 1]? = some (.cells #[.slice (some ⟨b3, o3, none⟩) 8 c3, .slice (some ⟨b4, o4, none⟩) 8 c4] 25 (0, 0))) := (by subst hwy; exact blk_set Q1.out (Ne.symm d4) : wy.heap[w.heap.size + 1]? = some (.cells #[.slice (some ⟨b3, o3, none⟩) 8 c3, .slice (some ⟨b4, o4, none⟩) 8 c4] 25 (0, 0)))
          replace QR : Hid (wy.heap[w.heap.size + 1 + 1]? = some (.cells #[.slice none 0 0, .slice none 0 0] 25 (0, 0))) := (by subst hwy; exact blk_set QR.out d16 : wy.heap[w.heap.size + 1 + 1]? = some (.cells #[.slice none 0 0, .slice none 0 0] 25 (0, 0)))
          replace QX : Hid (wy.heap[X]? = some (.cells #[.slice (some ⟨gV, 0, none⟩) 8 cV, .slice (some ⟨gM, 0, none⟩) 8 cM] 25 (0, 0))) := (by subst hwy; exact blk_set QX.out (Ne.symm d6) : wy.heap[X]? = some (.cells #[.slice (some ⟨gV, 0, none⟩) 8 cV, .slice (some ⟨gM, 0, none⟩) 8 cM] 25 (0, 0)))
          replace gVx : Hid (Wt wy (some ⟨gV, 0, none⟩) gV (lst (cut nv nul k))) := (by subst hwy; exact wt_set2 (wt_drew gVx.out) (Ne.symm l3) : Wt wy (some ⟨gV, 0, none⟩) gV (lst (cut nv nul k)))
          replace gMx : Hid (Wt wy (some ⟨gM, 0, none⟩) gM (lst (cut nm nul (k + 1)))) := (by subst hwy; rw [← EM.out]; exact wt_up (wt_drew gMx.out) hlt : Wt wy (some ⟨gM, 0, none⟩) gM (lst (cut nm nul (k + 1))))
          clear hwy cM1 fM EM
          go_wp2
          refine wp_region_held_drew (S := (fun w' => w'.cell? ⟨w.heap.size, 0, none⟩ = some (.slice (some ⟨b1, o1, none⟩) 8 c1) ∧ w'.cell? ⟨w.heap.size, 1, none⟩ = some (.slice (some ⟨b2, o2, none⟩) 8 c2) ∧ w'.cell? ⟨w.heap.size + 1, 0, none⟩ = some (.slice (some ⟨b3, o3, none⟩) 8 c3) ∧ w'.cell? ⟨w.heap.size + 1, 1, none⟩ = some (.slice (some ⟨b4, o4, none⟩) 8 c4) ∧ w'.cell? ⟨X, 0, none⟩ = some (.slice (some ⟨gV, 0, none⟩) 8 cV) ∧ w'.cell? ⟨X, 1, none⟩ = some (.slice (some ⟨gM, 0, none⟩) 8 cM) ∧ w'.cell? ⟨b1, o1 + k, none⟩ = some (.int .i64 m1) ∧ w'.cell? ⟨b2, o2 + k, none⟩ = some (.int .i64 m2) ∧ w'.cell? ⟨b3, o3 + k, none⟩ = some (.int .i64 m3) ∧ w'.cell? ⟨b4, o4 + k, none⟩ = some (.int .i64 m4))) (by kernel_rfl) ⟨p00, p01, p10, p11, x0, x1, g1, g2, g3, g4⟩ (fun hHeld => ?_)
          refine take (i := 0) (d := some 80) (v := .pointer (some ⟨X, 0, none⟩)) rfl (by kernel_rfl) (by kernel_rfl) (by kernel_rfl) (by kernel_rfl) (fun _ _ _ h => h) (Or.inl ⟨by rfl, by intro w hSw; go_simp⟩) hHeld ?_
          simp only [Act.put, List.setIfInBounds_toArray, List.set_cons_zero, List.set_cons_succ]
          refine take (i := 1) (d := some 81) (v := .slice (some ⟨gV, 0, none⟩) 8 cV) rfl (by kernel_rfl) (by kernel_rfl) (by kernel_rfl) (by kernel_rfl) (fun _ _ _ h => h) (Or.inl ⟨by rfl, by intro w hSw; obtain ⟨p00, p01, p10, p11, x0, x1, g1, g2, g3, g4⟩ := hSw; go_simp⟩) hHeld ?_
          simp only [Act.put, List.setIfInBounds_toArray, List.set_cons_zero, List.set_cons_succ]
          refine take (i := 2) (d := some 82) (v := .int .i64 k) rfl (by kernel_rfl) (by kernel_rfl) (by kernel_rfl) (by kernel_rfl) (fun _ _ _ h => h) (Or.inl ⟨by rfl, by intro w hSw; go_simp⟩) hHeld ?_
          simp only [Act.put, List.setIfInBounds_toArray, List.set_cons_zero, List.set_cons_succ]
          refine take (i := 3) (d := some 83) (v := .pointer (some ⟨w.heap.size, 0, none⟩)) rfl (by kernel_rfl) (by kernel_rfl) (by kernel_rfl) (by kernel_rfl) (fun _ _ _ h => h) (Or.inl ⟨by rfl, by intro w hSw; go_simp⟩) hHeld ?_
          simp only [Act.put, List.setIfInBounds_toArray, List.set_cons_zero, List.set_cons_succ]
          refine take (i := 4) (d := some 84) (v := .slice (some ⟨b1, o1, none⟩) 8 c1) rfl (by kernel_rfl) (by kernel_rfl) (by kernel_rfl) (by kernel_rfl) (fun _ _ _ h => h) (Or.inl ⟨by rfl, by intro w hSw; obtain ⟨p00, p01, p10, p11, x0, x1, g1, g2, g3, g4⟩ := hSw; go_simp⟩) hHeld ?_
          simp only [Act.put, List.setIfInBounds_toArray, List.set_cons_zero, List.set_cons_succ]
          refine take (i := 5) (d := some 85) (v := .int .i64 k) rfl (by kernel_rfl) (by kernel_rfl) (by kernel_rfl) (by kernel_rfl) (fun _ _ _ h => h) (Or.inl ⟨by rfl, by intro w hSw; go_simp⟩) hHeld ?_
          simp only [Act.put, List.setIfInBounds_toArray, List.set_cons_zero, List.set_cons_succ]
          refine take (i := 6) (d := some 86) (v := .pointer (some ⟨b1, o1 + k, none⟩)) rfl (by kernel_rfl) (by kernel_rfl) (by kernel_rfl) (by kernel_rfl) (fun _ _ _ h => h) (Or.inl ⟨by rfl, by intro w hSw; go_simp⟩) hHeld ?_
          simp only [Act.put, List.setIfInBounds_toArray, List.set_cons_zero, List.set_cons_succ]
          refine take (i := 7) (d := some 87) (v := .int .i64 m1) rfl (by kernel_rfl) (by kernel_rfl) (by kernel_rfl) (by kernel_rfl) (fun _ _ _ h => h) (Or.inl ⟨by rfl, by intro w hSw; obtain ⟨p00, p01, p10, p11, x0, x1, g1, g2, g3, g4⟩ := hSw; go_simp⟩) hHeld ?_
          simp only [Act.put, List.setIfInBounds_toArray, List.set_cons_zero, List.set_cons_succ]
          refine take (i := 8) (d := some 88) (v := .pointer (some ⟨w.heap.size + 1, 0, none⟩)) rfl (by kernel_rfl) (by kernel_rfl) (by kernel_rfl) (by kernel_rfl) (fun _ _ _ h => h) (Or.inl ⟨by rfl, by intro w hSw; go_simp⟩) hHeld ?_
          simp only [Act.put, List.setIfInBounds_toArray, List.set_cons_zero, List.set_cons_succ]
          refine take (i := 9) (d := some 89) (v := .slice (some ⟨b3, o3, none⟩) 8 c3) rfl (by kernel_rfl) (by kernel_rfl) (by kernel_rfl) (by kernel_rfl) (fun _ _ _ h => h) (Or.inl ⟨by rfl, by intro w hSw; obtain ⟨p00, p01, p10, p11, x0, x1, g1, g2, g3, g4⟩ := hSw; go_simp⟩) hHeld ?_
          simp only [Act.put, List.setIfInBounds_toArray, List.set_cons_zero, List.set_cons_succ]
          refine take (i := 10) (d := some 90) (v := .int .i64 k) rfl (by kernel_rfl) (by kernel_rfl) (by kernel_rfl) (by kernel_rfl) (fun _ _ _ h => h) (Or.inl ⟨by rfl, by intro w hSw; go_simp⟩) hHeld ?_
          simp only [Act.put, List.setIfInBounds_toArray, List.set_cons_zero, List.set_cons_succ]
          refine take (i := 11) (d := some 91) (v := .pointer (some ⟨b3, o3 + k, none⟩)) rfl (by kernel_rfl) (by kernel_rfl) (by kernel_rfl) (by kernel_rfl) (fun _ _ _ h => h) (Or.inl ⟨by rfl, by intro w hSw; go_simp⟩) hHeld ?_
          simp only [Act.put, List.setIfInBounds_toArray, List.set_cons_zero, List.set_cons_succ]
          refine take (i := 12) (d := some 92) (v := .int .i64 m3) rfl (by kernel_rfl) (by kernel_rfl) (by kernel_rfl) (by kernel_rfl) (fun _ _ _ h => h) (Or.inl ⟨by rfl, by intro w hSw; obtain ⟨p00, p01, p10, p11, x0, x1, g1, g2, g3, g4⟩ := hSw; go_simp⟩) hHeld ?_
          simp only [Act.put, List.setIfInBounds_toArray, List.set_cons_zero, List.set_cons_succ]
          refine take (i := 13) (d := some 93) (v := .int .i64 (bits .or .i64 m1 m3)) rfl (by kernel_rfl) (by kernel_rfl) (by kernel_rfl) (by kernel_rfl) (fun _ _ _ h => h) (Or.inl ⟨by rfl, by intro w hSw; go_simp⟩) hHeld ?_
          simp only [Act.put, List.setIfInBounds_toArray, List.set_cons_zero, List.set_cons_succ]
          refine take (i := 14) (d := some 94) (v := .pointer (some ⟨gV, k, none⟩)) rfl (by kernel_rfl) (by kernel_rfl) (by kernel_rfl) (by kernel_rfl) (fun _ _ _ h => h) (Or.inl ⟨by rfl, by intro w hSw; go_simp⟩) hHeld ?_
          simp only [Act.put, List.setIfInBounds_toArray, List.set_cons_zero, List.set_cons_succ]
          refine wpAnyH_ready (rs := [15]) (by kernel_rfl) (by simp) (ready3 (g := gV) (k := k) (v := bits .or .i64 m1 m3) rfl (by kernel_rfl) (.tmp 94) (.tmp 93) (by kernel_rfl) (by kernel_rfl) (by kernel_rfl) (by kernel_rfl) cV1 fV ⟨cell_set1 p00 (by simp; omega), cell_set1 p01 (by simp; omega), cell_set1 p10 (by simp; omega), cell_set1 p11 (by simp; omega), cell_set1 x0 (by simp; omega), cell_set1 x1 (by simp; omega), cell_set1 g1 (by simp; omega), cell_set1 g2 (by simp; omega), cell_set1 g3 (by simp; omega), cell_set1 g4 (by simp; omega)⟩ (fun hHeld => ?_) AllReadyH.nil)
          simp only [Act.put, List.setIfInBounds_toArray, List.set_cons_zero, List.set_cons_succ]
          refine wpAnyH_done (by kernel_rfl) ?_ _
          go_wp2
          go_roundw
          case rel =>
            rw [← EV.out]
            exact ⟨k + 1, by omega, by go_num, by first | exact (bset hbel (by omega)).drew | exact bset hbel.drew (by omega), by first | exact blk_set Q0.out (Ne.symm d1) | exact blk_set (g := w.heap.size) Q0.out (Ne.symm d1), blk_set Q1.out (Ne.symm d2), blk_set QR.out d15, blk_set QX.out (Ne.symm d5), by first | exact wt_drew (wt_up gVx.out hlt) | exact wt_up (wt_drew gVx.out) hlt, by first | exact wt_drew (wt_set2 gMx.out l3) | exact wt_set2 (wt_drew gMx.out) l3, HY.out⟩
          case measure => simp [intOf]; omega
    · have he : k = 8 := by omega
      subst he
      have hr := HR.out.2 HG.out
      have e8 : lst (cut nv nul 8) = lst nv := by unfold lst; apply List.map_congr_left; intro i hi; simp at hi; simp [cut, hi]
      have e9 : lst (cut nm nul 8) = lst nm := by unfold lst; apply List.map_congr_left; intro i hi; simp at hi; simp [cut, hi]
      rw [e8] at hv
      rw [e9] at hm
      clear e8 e9 HLT NV NM D1 R1 D2 R2 D3 R3 D4 R4
      have HRR : Hid (R = true) := hr
      clear hr
      obtain ⟨x0, x1⟩ := two qX
      obtain ⟨s0, s1⟩ := two qR
      have fR := Bl.free qR
      have nX : X ≠ w.heap.size + 1 + 1 := by omega
      go_wp2
      obtain ⟨rfl, rfl⟩ := Y1.out HRR.out
      rw [HRR.out]
      refine bodyPost_ret (v := .tuple #[.agg #[.slice (some ⟨gV, 0, none⟩) 8 cV, .slice (some ⟨gM, 0, none⟩) 8 cM], .bool true]) (by simp [results, Try.results71, go_sem, s0, s1]) rfl ⟨_, gV, _, _, gM, _, by rw [lst_len, lst_len], ?_, ?_, by omega, by omega, l3, ?_⟩
      · exact wt_set2 (wt_set2 hv (by omega)) (by omega)
      · exact wt_set2 (wt_set2 hm (by omega)) (by omega)
      · exact bset (bset hbo (by omega)) (by omega)

end Go.Proofs.Ytcbgnfjnjfaacaa.Mm
namespace Go.Proofs.Ytcbgnfjnjfaacaa.Mu
set_option maxRecDepth 8000
open Go Go.RowKit
open Num Pl Hr Hh Hf Hg Pa Pm Po Pq Mi Bw Mo Mp Mj Mm
set_option linter.unusedSimpArgs false
set_option linter.unusedVariables false

theorem cell_set0 {w : World} {a : Addr} {g i : Nat} {x : Value} {v : Option Value} (h : w.cell? a = v) (hne : a.block ≠ g) : (w.setCell ⟨g, i, none⟩ x).cell? a = v := by
  rw [World.cell?_setCell_other _ _ _ _ (by intro q; exact hne (by rw [← q]))]
  exact h
theorem quo8 (f : Nat) (h : f < 8) : fb f / 8 = (((fbN f) / 8 : Nat) : Int) := by
  rw [fbN_eq]; omega
theorem pw_full (f : Nat) (h : f < 8) : (pw (fbN f / 8) : Int) - 1 = fullI f := by
  rcases Hs.k8 h with rfl | rfl | rfl | rfl | rfl | rfl | rfl | rfl <;> decide

set_option maxHeartbeats 1000000 in
theorem fullS_any (f : Nat) (hf : f < 8) (w : World) : Calls Try.prog 155 #[.int .i64 f] w fun e w' => e = .returned (.int .i64 (fullI f)) ∧ Below w.heap.size w w' := by
  rcases Hs.k8 hf with rfl | rfl | rfl | rfl | rfl | rfl | rfl | rfl
  · have hb := specBits_any 0 w
    rw [show fb 0 = 8 from by decide] at hb
    have hp := fun w => pow_any 1 (by omega) w
    have e : fullI 0 = (pw 1 : Int) - 1 := by decide
    have hv : pw 1 = 256 := by decide
    rw [e, hv]
    rw [hv] at hp
    clear e hv
    go_enter Try.func155, Try.ntmps155
    go_wp2_with (first | (go_at_call 66; refine hb.mono ?_; rintro e wa ⟨rfl, hba⟩) | (go_at_call 118; refine (hp _).mono ?_; rintro e wq ⟨rfl, hwq⟩; replace hwq := hwq.symm; subst hwq))
    go_ret
    exact ⟨rfl, hba⟩
  · have hb := specBits_any 1 w
    rw [show fb 1 = 48 from by decide] at hb
    have hp := fun w => pow_any 6 (by omega) w
    have e : fullI 1 = (pw 6 : Int) - 1 := by decide
    have hv : pw 6 = 281474976710656 := by decide
    rw [e, hv]
    rw [hv] at hp
    clear e hv
    go_enter Try.func155, Try.ntmps155
    go_wp2_with (first | (go_at_call 66; refine hb.mono ?_; rintro e wa ⟨rfl, hba⟩) | (go_at_call 118; refine (hp _).mono ?_; rintro e wq ⟨rfl, hwq⟩; replace hwq := hwq.symm; subst hwq))
    go_ret
    exact ⟨rfl, hba⟩
  · have hb := specBits_any 2 w
    rw [show fb 2 = 48 from by decide] at hb
    have hp := fun w => pow_any 6 (by omega) w
    have e : fullI 2 = (pw 6 : Int) - 1 := by decide
    have hv : pw 6 = 281474976710656 := by decide
    rw [e, hv]
    rw [hv] at hp
    clear e hv
    go_enter Try.func155, Try.ntmps155
    go_wp2_with (first | (go_at_call 66; refine hb.mono ?_; rintro e wa ⟨rfl, hba⟩) | (go_at_call 118; refine (hp _).mono ?_; rintro e wq ⟨rfl, hwq⟩; replace hwq := hwq.symm; subst hwq))
    go_ret
    exact ⟨rfl, hba⟩
  · have hb := specBits_any 3 w
    rw [show fb 3 = 16 from by decide] at hb
    have hp := fun w => pow_any 2 (by omega) w
    have e : fullI 3 = (pw 2 : Int) - 1 := by decide
    have hv : pw 2 = 65536 := by decide
    rw [e, hv]
    rw [hv] at hp
    clear e hv
    go_enter Try.func155, Try.ntmps155
    go_wp2_with (first | (go_at_call 66; refine hb.mono ?_; rintro e wa ⟨rfl, hba⟩) | (go_at_call 118; refine (hp _).mono ?_; rintro e wq ⟨rfl, hwq⟩; replace hwq := hwq.symm; subst hwq))
    go_ret
    exact ⟨rfl, hba⟩
  · have hb := specBits_any 4 w
    rw [show fb 4 = 16 from by decide] at hb
    have hp := fun w => pow_any 2 (by omega) w
    have e : fullI 4 = (pw 2 : Int) - 1 := by decide
    have hv : pw 2 = 65536 := by decide
    rw [e, hv]
    rw [hv] at hp
    clear e hv
    go_enter Try.func155, Try.ntmps155
    go_wp2_with (first | (go_at_call 66; refine hb.mono ?_; rintro e wa ⟨rfl, hba⟩) | (go_at_call 118; refine (hp _).mono ?_; rintro e wq ⟨rfl, hwq⟩; replace hwq := hwq.symm; subst hwq))
    go_ret
    exact ⟨rfl, hba⟩
  · have hb := specBits_any 5 w
    rw [show fb 5 = 32 from by decide] at hb
    have hp := fun w => pow_any 4 (by omega) w
    have e : fullI 5 = (pw 4 : Int) - 1 := by decide
    have hv : pw 4 = 4294967296 := by decide
    rw [e, hv]
    rw [hv] at hp
    clear e hv
    go_enter Try.func155, Try.ntmps155
    go_wp2_with (first | (go_at_call 66; refine hb.mono ?_; rintro e wa ⟨rfl, hba⟩) | (go_at_call 118; refine (hp _).mono ?_; rintro e wq ⟨rfl, hwq⟩; replace hwq := hwq.symm; subst hwq))
    go_ret
    exact ⟨rfl, hba⟩
  · have hb := specBits_any 6 w
    rw [show fb 6 = 32 from by decide] at hb
    have hp := fun w => pow_any 4 (by omega) w
    have e : fullI 6 = (pw 4 : Int) - 1 := by decide
    have hv : pw 4 = 4294967296 := by decide
    rw [e, hv]
    rw [hv] at hp
    clear e hv
    go_enter Try.func155, Try.ntmps155
    go_wp2_with (first | (go_at_call 66; refine hb.mono ?_; rintro e wa ⟨rfl, hba⟩) | (go_at_call 118; refine (hp _).mono ?_; rintro e wq ⟨rfl, hwq⟩; replace hwq := hwq.symm; subst hwq))
    go_ret
    exact ⟨rfl, hba⟩
  · have hb := specBits_any 7 w
    rw [show fb 7 = 8 from by decide] at hb
    have hp := fun w => pow_any 1 (by omega) w
    have e : fullI 7 = (pw 1 : Int) - 1 := by decide
    have hv : pw 1 = 256 := by decide
    rw [e, hv]
    rw [hv] at hp
    clear e hv
    go_enter Try.func155, Try.ntmps155
    go_wp2_with (first | (go_at_call 66; refine hb.mono ?_; rintro e wa ⟨rfl, hba⟩) | (go_at_call 118; refine (hp _).mono ?_; rintro e wq ⟨rfl, hwq⟩; replace hwq := hwq.symm; subst hwq))
    go_ret
    exact ⟨rfl, hba⟩

end Go.Proofs.Ytcbgnfjnjfaacaa.Mu
namespace Go.Proofs.Ytcbgnfjnjfaacaa.Dr
set_option maxRecDepth 8000
open Go Go.RowKit
open Num Rw Mk Un Put
set_option linter.unusedSimpArgs false
set_option linter.unusedVariables false

set_option maxHeartbeats 2000000 in
/-- A number of any kind. -/
theorem raw_any (g : Nat) (a : Option Addr) (b off cap : Nat) (l : List Int) (w : World) (h : Cur w g a b off cap l) :
    Calls Try.prog 127 #[.pointer (some ⟨g, 0, none⟩)] w fun e w' => ∃ x : Int, e = .returned (.int .i64 x) ∧ Cur w' g a b off cap l ∧ Only g w w' := by
  have hC := h
  have hO := Only.refl g w
  clear h
  go_enter Try.func127, Try.ntmps127
  go_wp2_with (first | (go_at_call 63; refine (below_any _ _ _ _ _ _ _ _ hC (by omega) (by omega)).mono ?_; rintro e w1 ⟨x, rfl, x0, x1, hC1, hO1⟩; replace hO := only_trans hO hO1; replace hC := hC1; clear hC1 hO1) | (go_at_call 118; refine (powI _ _ (by omega) (by omega)).mono ?_; rintro e w1 ⟨rfl, rfl⟩))
  all_goals
    go_ret
    exact ⟨_, rfl, hC, hO⟩


end Go.Proofs.Ytcbgnfjnjfaacaa.Dr
namespace Go.Proofs.Ytcbgnfjnjfaacaa.Yu
set_option maxRecDepth 8000
set_option linter.unusedSimpArgs false
set_option linter.unusedVariables false
open Go Go.RowKit
open Num Pl Hr Hh Pq Ht Yh Yl

/-- A head is handed back, in memory of the call's own, and the cursor goes on. -/
def HeadD (w : World) (g : Nat) (a : Option Addr) (b off cap : Nat) (c : List Int) (e : Ending) (w' : World) : Prop :=
  ∃ gv cv l, e = .returned (.agg #[.slice (some ⟨gv, 0, none⟩) (List.length l) cv]) ∧ Own w' gv l ∧ w.heap.size ≤ gv ∧ Dr.Cur w' g a b off cap c ∧ Mk.Only g w w'
theorem mine8 {w : World} {g : Nat} {x0 x1 x2 x3 x4 x5 x6 x7 : Int} (h : w.heap[g]? = some (.cells #[.int .i64 x0, .int .i64 x1, .int .i64 x2, .int .i64 x3, .int .i64 x4, .int .i64 x5, .int .i64 x6, .int .i64 x7] 3 (0, 0))) : Mine w g [x0, x1, x2, x3, x4, x5, x6, x7] := by
  refine ⟨⟨_, h, rfl, fun i hi => ?_⟩, by simp⟩
  rcases Hs.k8 (by simpa using hi : i < 8) with rfl | rfl | rfl | rfl | rfl | rfl | rfl | rfl <;> rfl
theorem own_onlyN {w w' : World} {g q : Nat} {l : List Int} (h : Mine w q l) (ho : Mk.Only g w w') (hne : q ≠ g) : Mine w' q l := Yq.mine_only h ho hne
theorem mine_put {w : World} {g F : Nat} {l : List Int} {x : Int} (h : Mine w g l) : Mine (w.setCell ⟨g, F, none⟩ (.int .i64 x)) g (l.set F x) := by
  refine ⟨?_, by simpa using h.size⟩
  rw [List.length_set]
  refine (h.row.set F _).congr fun i hi => ?_
  rw [set_at hi]
  by_cases e : i = F
  · rw [if_pos e, if_pos e]
  · rw [if_neg e, if_neg e]
theorem mine_of {w w' : World} {g : Nat} {l : List Int} (h : Mine w g l) (e : w'.heap[g]? = w.heap[g]?) : Mine w' g l := ⟨h.row.of_block e, h.size⟩
theorem pw_bound {k : Nat} (h : k ≤ 6) : 0 ≤ (pw k : Int) ∧ (pw k : Int) ≤ 281474976710656 := by
  have e : k = 0 ∨ k = 1 ∨ k = 2 ∨ k = 3 ∨ k = 4 ∨ k = 5 ∨ k = 6 := by omega
  rcases e with rfl | rfl | rfl | rfl | rfl | rfl | rfl <;> decide
theorem only_below {g : Nat} {w w1 w2 : World} (h : Mk.Only g w w1) (b : Below w1.heap.size w1 w2) : Mk.Only g w w2 :=
  ⟨b.os.trans h.os, b.tape.trans h.tape, b.output.trans h.output, Nat.le_trans h.size b.size, fun k hk hne => (b.block k (Nat.lt_of_lt_of_le hk h.size)).trans (h.block k hk hne)⟩
theorem wrap_of {x : Int} (h0 : -9223372036854775808 ≤ x) (h1 : x ≤ 9223372036854775807) : IntKind.i64.wrap x = x := by rw [IntKind.wrap_i64]; omega
theorem block_set1 {w : World} {g : Nat} {v0 u : Value} {t : TypeId} (k : w.heap[g]? = some (.cells #[v0] t (0, 0))) : (w.setCell ⟨g, 0, none⟩ u).heap[g]? = some (.cells #[u] t (0, 0)) := by
  simp [World.setCell, Array.getElem?_modify, k]

set_option maxHeartbeats 4000000 in
theorem head_any (g : Nat) (a : Option Addr) (b off cap : Nat) (c : List Int) (w : World) (h : Dr.Cur w g a b off cap c) :
    Calls Try.prog 61 #[.pointer (some ⟨g, 0, none⟩)] w fun e w' => ∃ gv l, e = .returned (.agg #[.slice (some ⟨gv, 0, none⟩) 8 8]) ∧ Mine w' gv l ∧ l.length = 8 ∧ w.heap.size ≤ gv ∧ Dr.Cur w' g a b off cap c ∧ Mk.Only g w w' := by
  obtain ⟨W0, hW0⟩ : ∃ W0, W0 = w.alloc (.cells #[.slice none 0 0] 27) := ⟨_, rfl⟩
  have hg := Dr.cur_lt h
  have hbl := Dr.rd_lt h.rd
  have hC0 : Dr.Cur W0 g a b off cap c := by subst hW0; exact Dr.cur_alloc h _
  have k0 : W0.heap[w.heap.size]? = some (.cells #[.slice none 0 0] 27 (0, 0)) := by subst hW0; exact at_new rfl
  have hON : Mk.Only g W0 W0 := Mk.Only.refl _ _
  have hO0 : Mk.Only g w W0 := by subst hW0; exact Dr.only_alloc (Mk.Only.refl _ _) _
  have z0 : w.heap.size < W0.heap.size := by subst hW0; simp
  clear h
  go_enter Try.func61, Try.ntmps61
  have t1 : True := trivial
  go_wp2_with (go_at_call 63; clear t1; rw [← hW0]; refine (Dr.below_any _ _ _ _ _ _ 4 _ hC0 (by omega) (by omega)).mono ?_; rintro e w1 ⟨x1, rfl, x10, x11, hC1, hO⟩; replace hON := Dr.only_trans hON hO; clear hC0 hO hW0)
  have t2 : True := trivial
  go_wp2_with (go_at_call 63; clear t2; refine (Dr.below_any _ _ _ _ _ _ 5 _ hC1 (by omega) (by omega)).mono ?_; rintro e w2 ⟨x2, rfl, x20, x21, hC2, hO⟩; replace hON := Dr.only_trans hON hO; clear hC1 hO)
  have t3 : True := trivial
  go_wp2_with (go_at_call 63; clear t3; refine (Dr.below_any _ _ _ _ _ _ 5 _ hC2 (by omega) (by omega)).mono ?_; rintro e w3 ⟨x3, rfl, x30, x31, hC3, hO⟩; replace hON := Dr.only_trans hON hO; clear hC2 hO)
  have t4 : True := trivial
  go_wp2_with (go_at_call 63; clear t4; refine (Dr.below_any _ _ _ _ _ _ 3 _ hC3 (by omega) (by omega)).mono ?_; rintro e w4 ⟨x4, rfl, x40, x41, hC4, hO⟩; replace hON := Dr.only_trans hON hO; clear hC3 hO)
  have t5 : True := trivial
  go_wp2_with (go_at_call 63; clear t5; refine (Dr.below_any _ _ _ _ _ _ 4 _ hC4 (by omega) (by omega)).mono ?_; rintro e w5 ⟨x5, rfl, x50, x51, hC5, hO⟩; replace hON := Dr.only_trans hON hO; clear hC4 hO)
  have t6 : True := trivial
  go_wp2_with (go_at_call 63; clear t6; refine (Dr.below_any _ _ _ _ _ _ 4 _ hC5 (by omega) (by omega)).mono ?_; rintro e w6 ⟨x6, rfl, x60, x61, hC6, hO⟩; replace hON := Dr.only_trans hON hO; clear hC5 hO)
  obtain ⟨W7, hW7⟩ : ∃ W7, W7 = (w6.alloc (.cells #[.int .i64 (1 + x1), .int .i64 x2, .int .i64 x3, .int .i64 2048, .int .i64 x4, .int .i64 x5, .int .i64 x6, .int .i64 17] 3)).alloc (.cells #[.slice (some ⟨w6.heap.size, 0, none⟩) 8 8] 27) := ⟨_, rfl⟩
  have oV : Mine W7 w6.heap.size [1 + x1, x2, x3, 2048, x4, x5, x6, 17] := by subst hW7; exact mine8 (by rw [at_old (by simp), at_new rfl])
  have kH : W7.heap[w6.heap.size + 1]? = some (.cells #[.slice (some ⟨w6.heap.size, 0, none⟩) 8 8] 27 (0, 0)) := by subst hW7; exact at_new (by simp)
  have hC7 : Dr.Cur W7 g a b off cap c := by subst hW7; exact Dr.cur_alloc (Dr.cur_alloc hC6 _) _
  have z6 : W0.heap.size ≤ w6.heap.size := hON.size
  have hg6 : g < w6.heap.size := by omega
  have kR : W7.heap[w.heap.size]? = some (.cells #[.slice none 0 0] 27 (0, 0)) := by
    have q := (hON.block _ z0 (by simp; omega)).trans k0
    subst hW7
    rw [at_old (by simp; omega), at_old (by omega)]
    exact q
  have hO7 : Mk.Only g w W7 := by subst hW7; exact Dr.only_alloc (Dr.only_alloc (Dr.only_trans hO0 hON) _) _
  have z7 : w6.heap.size + 2 ≤ W7.heap.size := by subst hW7; simp
  have hWlt : w.heap.size < w6.heap.size := by omega
  obtain ⟨l0, hl0⟩ : ∃ l0, l0 = [1 + x1, x2, x3, 2048, x4, x5, x6, 17] := ⟨_, rfl⟩
  rw [← hl0] at oV
  have l8 : l0.length = 8 := by rw [hl0]; rfl
  clear hl0 hON k0 hO0 z0 hC6
  have t7 : True := trivial
  go_wp2_with (go_at_call 63; clear t7; rw [← hW7]; refine (Dr.below_any _ _ _ _ _ _ 4 _ hC7 (by omega) (by omega)).mono ?_; rintro e w8 ⟨x7, rfl, x70, x71, hC8, hO⟩; clear hW7 hC7; replace oV := own_onlyN oV hO (by omega); replace kH := (hO.block _ (by omega) (by simp; omega)).trans kH; replace kR := (hO.block _ (by omega) (by simp; omega)).trans kR; replace hO7 := Dr.only_trans hO7 hO; have z8 := hO.size; clear hO; have c1 := Hh.one kH; have r1 := Hh.one kR; have r2 := Bl.free kR)
  · clear c1 r1 r2
    have t8 : True := trivial
    go_wp2_with (go_at_call 63; clear t8; refine (Dr.below_any _ _ _ _ _ _ 8 _ hC8 (by omega) (by omega)).mono ?_; rintro e w9 ⟨f, rfl, f0, f1, hC9, hO⟩; clear hC8; replace oV := own_onlyN oV hO (by omega); replace kH := (hO.block _ (by omega) (by simp; omega)).trans kH; replace kR := (hO.block _ (by omega) (by simp; omega)).trans kR; replace hO7 := Dr.only_trans hO7 hO; have z9 := hO.size; clear hO)
    obtain ⟨F, hF⟩ : ∃ F : Nat, f = F := ⟨f.toNat, by omega⟩
    subst hF
    have hF8 : F < 8 := by omega
    obtain ⟨q, hq⟩ : ∃ q : Int, q = Hf.fb F / 8 := ⟨_, rfl⟩
    have hq6 : 0 ≤ q ∧ q ≤ 6 := by rcases Hg.fb_val F with e | e | e | e | e <;> (rw [e] at hq; omega)
    obtain ⟨pp, hpp⟩ : ∃ pp : Int, pp = (pw q.toNat : Int) := ⟨_, rfl⟩
    have hp0 : 0 ≤ pp ∧ pp ≤ 281474976710656 := by rw [hpp]; exact pw_bound (by omega)
    have hd1 : (Hf.fb F).tdiv 8 = q := by rcases Hg.fb_val F with e | e | e | e | e <;> (rw [e] at hq ⊢; rw [hq]; rfl)
    have HPP : Hid (pp = (pw q.toNat : Int)) := hpp
    have hfr : 0 ≤ Hf.fb F ∧ Hf.fb F ≤ 48 := by rcases Hg.fb_val F with e | e | e | e | e <;> omega
    have hw1 : IntKind.i64.wrap q = q := wrap_of (by omega) (by omega)
    have hw2 : IntKind.i64.wrap (pp - 1) = pp - 1 := wrap_of (by omega) (by omega)
    clear hq hpp
    refine wp_region_held_drew (S := fun w' => w'.heap[w6.heap.size + 1]? = some (.cells #[.slice (some ⟨w6.heap.size, 0, none⟩) 8 8] 27 (0, 0))) (by kernel_rfl) kH (fun hHeld => ?_)
    refine take (i := 0) (d := some 25) (v := .pointer (some ⟨w6.heap.size + 1, 0, none⟩)) rfl (by kernel_rfl) (by kernel_rfl) (by kernel_rfl) (by kernel_rfl) (fun _ _ _ h => h) (Or.inl ⟨by rfl, by intro w hSw; go_simp⟩) hHeld ?_
    simp only [Act.put, List.setIfInBounds_toArray, List.set_cons_zero, List.set_cons_succ]
    refine take (i := 1) (d := some 26) (v := .slice (some ⟨w6.heap.size, 0, none⟩) 8 8) rfl (by kernel_rfl) (by kernel_rfl) (by kernel_rfl) (by kernel_rfl) (fun _ _ _ h => h) (Or.inl ⟨by rfl, by intro w hSw; have q1 := Hh.one hSw; go_simp⟩) hHeld ?_
    simp only [Act.put, List.setIfInBounds_toArray, List.set_cons_zero, List.set_cons_succ]
    refine take (i := 2) (d := some 27) (v := .int .i64 F) rfl (by kernel_rfl) (by kernel_rfl) (by kernel_rfl) (by kernel_rfl) (fun _ _ _ h => h) (Or.inl ⟨by rfl, by intro w hSw; go_simp⟩) hHeld ?_
    simp only [Act.put, List.setIfInBounds_toArray, List.set_cons_zero, List.set_cons_succ]
    refine take (i := 3) (d := some 28) (v := .int .i64 F) rfl (by kernel_rfl) (by kernel_rfl) (by kernel_rfl) (by kernel_rfl) (fun _ _ _ h => h) (Or.inl ⟨by rfl, by intro w hSw; go_simp⟩) hHeld ?_
    simp only [Act.put, List.setIfInBounds_toArray, List.set_cons_zero, List.set_cons_succ]
    refine take (i := 8) (d := some 33) (v := .pointer (some ⟨g, 0, none⟩)) rfl (by kernel_rfl) (by kernel_rfl) (by kernel_rfl) (by kernel_rfl) (fun _ _ _ h => h) (Or.inl ⟨by rfl, by intro w hSw; go_simp⟩) hHeld ?_
    simp only [Act.put, List.setIfInBounds_toArray, List.set_cons_zero, List.set_cons_succ]
    refine wpAnyH_ready (rs := [4]) (by kernel_rfl) (by simp) (Rg.call1 rfl (by kernel_rfl) 66 (.tmp 28) 3 (by kernel_rfl) 29 (by kernel_rfl) (.int .i64 F) (by kernel_rfl) (fun _ => rfl) (Hf.specBits_any _ _) ?_ AllReadyH.nil)
    rintro e wa ⟨rfl, hb⟩
    replace hb := Rw.next (Below.drew (Below.refl _ w9)) hb
    have za := hb.size
    replace oV := oV.below hb
    replace kH := (hb.block _ (by omega)).trans kH
    replace kR := (hb.block _ (by omega)).trans kR
    replace hC9 := Dr.cur_keep hC9 (fun k hk => hb.block k hk) (Dr.cur_lt hC9) (Dr.rd_lt hC9.rd)
    replace hO7 := only_below hO7 hb
    clear hb
    refine ⟨_, rfl, kH, fun hHeld => ?_⟩
    simp only [Act.put, List.setIfInBounds_toArray, List.set_cons_zero, List.set_cons_succ]
    refine take (i := 5) (d := some 30) (v := .int .i64 q) rfl (by kernel_rfl) (by kernel_rfl) (by kernel_rfl) (by kernel_rfl) (fun _ _ _ h => h) (Or.inl ⟨by rfl, by intro w hSw; go_simp⟩) hHeld ?_
    simp only [Act.put, List.setIfInBounds_toArray, List.set_cons_zero, List.set_cons_succ]
    refine wpAnyH_ready (rs := [6]) (by kernel_rfl) (by simp) (Rg.call1 rfl (by kernel_rfl) 118 (.tmp 30) 3 (by kernel_rfl) 31 (by kernel_rfl) (.int .i64 q) (by kernel_rfl) (fun _ => rfl) (Dr.powI q _ hq6.1 hq6.2) ?_ AllReadyH.nil)
    rw [← HPP.out]
    rintro e wb ⟨rfl, hw⟩
    replace hw := hw.symm
    subst hw
    refine ⟨_, rfl, kH, fun hHeld => ?_⟩
    simp only [Act.put, List.setIfInBounds_toArray, List.set_cons_zero, List.set_cons_succ]
    refine take (i := 7) (d := some 32) (v := .int .i64 (pp - 1)) rfl (by kernel_rfl) (by kernel_rfl) (by kernel_rfl) (by kernel_rfl) (fun _ _ _ h => h) (Or.inl ⟨by rfl, by intro w hSw; go_simp⟩) hHeld ?_
    simp only [Act.put, List.setIfInBounds_toArray, List.set_cons_zero, List.set_cons_succ]
    refine wpAnyH_ready (rs := [9]) (by kernel_rfl) (by simp) (Rg.call2 rfl (by kernel_rfl) 63 (.tmp 33) (.const (.int .i64 2)) 87 3 (by kernel_rfl) 34 (by kernel_rfl) (.pointer (some ⟨g, 0, none⟩)) (.int .i64 2) (by kernel_rfl) (by kernel_rfl) (fun _ => rfl) (Dr.below_any _ _ _ _ _ _ 2 _ hC9 (by omega) (by omega)) ?_ AllReadyH.nil)
    rintro e wc ⟨y, rfl, y0, y1, hC, hO⟩
    have zc := hO.size
    have hw3 : IntKind.i64.wrap (pp - 1 - y) = pp - 1 - y := wrap_of (by omega) (by omega)
    replace oV := own_onlyN oV hO (by omega)
    replace kH := (hO.block _ (by omega) (by simp; omega)).trans kH
    replace kR := (hO.block _ (by omega) (by simp; omega)).trans kR
    replace hO7 := Dr.only_trans hO7 hO
    clear hO hC9
    refine ⟨_, rfl, kH, fun hHeld => ?_⟩
    simp only [Act.put, List.setIfInBounds_toArray, List.set_cons_zero, List.set_cons_succ]
    refine take (i := 10) (d := some 35) (v := .int .i64 (pp - 1 - y)) rfl (by kernel_rfl) (by kernel_rfl) (by kernel_rfl) (by kernel_rfl) (fun _ _ _ h => h) (Or.inl ⟨by rfl, by intro w hSw; go_simp⟩) hHeld ?_
    simp only [Act.put, List.setIfInBounds_toArray, List.set_cons_zero, List.set_cons_succ]
    refine take (i := 11) (d := some 36) (v := .pointer (some ⟨w6.heap.size, F, none⟩)) rfl (by kernel_rfl) (by kernel_rfl) (by kernel_rfl) (by kernel_rfl) (fun _ _ _ h => h) (Or.inl ⟨by rfl, by intro w hSw; go_simp⟩) hHeld ?_
    simp only [Act.put, List.setIfInBounds_toArray, List.set_cons_zero, List.set_cons_succ]
    have cV := (mine_wt oV).cell F (by omega)
    have fV := (mine_wt oV).free F (by omega)
    refine wpAnyH_ready (rs := [12]) (by kernel_rfl) (by simp) (readySkip (i := 12) rfl (by kernel_rfl) none (by kernel_rfl) (w' := wc.setCell ⟨w6.heap.size, F, none⟩ (.int .i64 (pp - 1 - y))) (by go_simp) ((Below.heap_setCell _ _ _ _ (by simp)).trans kH) (fun hHeld => ?_) AllReadyH.nil)
    simp only [Act.put, List.setIfInBounds_toArray, List.set_cons_zero, List.set_cons_succ]
    refine wpAnyH_done (by kernel_rfl) ?_ _
    have oE := mine_put (F := F) (x := pp - 1 - y) oV
    have kHE : (wc.setCell ⟨w6.heap.size, F, none⟩ (.int .i64 (pp - 1 - y))).heap[w6.heap.size + 1]? = _ := (Below.heap_setCell _ _ _ _ (by simp)).trans kH
    have kRE : (wc.setCell ⟨w6.heap.size, F, none⟩ (.int .i64 (pp - 1 - y))).heap[w.heap.size]? = _ := (Below.heap_setCell _ _ _ _ (by simp; omega)).trans kR
    have hCE : Dr.Cur (wc.setCell ⟨w6.heap.size, F, none⟩ (.int .i64 (pp - 1 - y))) g a b off cap c := Dr.cur_keep hC (fun k hk => Below.heap_setCell _ _ _ _ (by simp; omega)) (B := w6.heap.size) hg6 (hbl.imp id (fun q => by omega))
    have hOE : Mk.Only g w (wc.setCell ⟨w6.heap.size, F, none⟩ (.int .i64 (pp - 1 - y))) := Dr.only_set hO7 (by omega)
    generalize wc.setCell ⟨w6.heap.size, F, none⟩ (.int .i64 (pp - 1 - y)) = wE at *
    have c1 := Hh.one kHE
    have r1 := Hh.one kRE
    have r2 := Bl.free kRE 0
    go_wp2
    refine bodyPost_ret (v := .agg #[.slice (some ⟨w6.heap.size, 0, none⟩) 8 8]) (by simp [results, Try.results61, go_sem, Hh.one (block_set1 kRE)]) rfl ⟨_, _, rfl, mine_of oE (Below.heap_setCell _ _ _ _ (by simp; omega)), by rw [List.length_set]; exact l8, by omega, Dr.cur_keep hCE (fun k hk => Below.heap_setCell _ _ _ _ (by simp; omega)) (B := w.heap.size) hg hbl, Dr.only_set hOE (Nat.le_refl _)⟩
  · refine bodyPost_ret (v := .agg #[.slice (some ⟨w6.heap.size, 0, none⟩) 8 8]) (by simp [results, Try.results61, go_sem, Hh.one (block_set1 kR)]) rfl ⟨_, _, rfl, mine_of oV (Below.heap_setCell _ _ _ _ (by simp; omega)), l8, by omega, Dr.cur_keep hC8 (fun k hk => Below.heap_setCell _ _ _ _ (by simp; omega)) (B := w.heap.size) hg hbl, Dr.only_set hO7 (Nat.le_refl _)⟩


end Go.Proofs.Ytcbgnfjnjfaacaa.Yu
namespace Go.Proofs.Ytcbgnfjnjfaacaa.Yx
set_option maxRecDepth 8000
set_option linter.unusedSimpArgs false
set_option linter.unusedVariables false
open Go Go.RowKit
open Num Pl Hr Hh Pq Ht Yh Yl Yu

abbrev A3 := Yb.A3
def cellsA (x : A3) : List Value := [.int .i64 x.1, .int .i64 x.2.1, .int .i64 x.2.2]
def flatA (l : List A3) : List Value := l.flatMap cellsA
theorem flatA_get : ∀ (l : List A3) (i : Nat), i < l.length → (flatA l)[i * 3]? = some (.int .i64 (l.getD i Yb.z3).1) ∧ (flatA l)[i * 3 + 1]? = some (.int .i64 (l.getD i Yb.z3).2.1) ∧ (flatA l)[i * 3 + 2]? = some (.int .i64 (l.getD i Yb.z3).2.2)
  | [], i, h => by simp at h
  | x :: l, 0, h => by simp [flatA, cellsA, List.getD]
  | x :: l, i + 1, h => by
    have q := flatA_get l i (by simpa using h)
    have e0 : (i + 1) * 3 = i * 3 + 1 + 1 + 1 := by omega
    have e : flatA (x :: l) = .int .i64 x.1 :: .int .i64 x.2.1 :: .int .i64 x.2.2 :: flatA l := by simp [flatA, cellsA]
    rw [e0, e]
    exact ⟨q.1, q.2.1, q.2.2⟩
theorem info76 : (Try.prog.info? 147).map (fun i => (i.zero, i.size, i.bytes)) = some (some (.agg #[.int .i64 0, .int .i64 0, .int .i64 0]), 3, 24) := by kernel_rfl

/-- A slice of the call's own, not nil, that holds the actions l. -/
def HasA (w : World) (B : Nat) (v : Value) (l : List A3) : Prop := w.ownsRow B 147 3 v l.length (flatA l) ∧ v ≠ .slice none 0 0
theorem hasA_mono {w : World} {B B' : Nat} {v : Value} {l : List A3} (h : HasA w B v l) (hB : B' ≤ B) : HasA w B' v l := by
  refine ⟨⟨h.1.1, ?_⟩, h.2⟩
  rcases h.1.2 with ⟨e1, e2⟩ | ⟨g, cap, cur, e1, hb, hg, rest⟩
  · exact .inl ⟨e1, e2⟩
  · exact .inr ⟨g, cap, cur, e1, Nat.le_trans hB hb, hg, rest⟩
theorem hasA_keep {w w' : World} {B : Nat} {v : Value} {l : List A3} (h : HasA w B v l) (hk : ∀ k, B ≤ k → k < w.heap.size → w'.heap[k]? = w.heap[k]?) : HasA w' B v l := by
  refine ⟨⟨h.1.1, ?_⟩, h.2⟩
  rcases h.1.2 with ⟨e1, e2⟩ | ⟨g, cap, cur, e1, hb, hg, rest⟩
  · exact .inl ⟨e1, e2⟩
  · exact .inr ⟨g, cap, cur, e1, hb, (hk g hb (Array.getElem?_eq_some_iff.1 hg).1).trans hg, rest⟩
theorem hasA_only {w w' : World} {B g : Nat} {v : Value} {l : List A3} (h : HasA w B v l) (ho : Mk.Only g w w') (hg : g < B) : HasA w' B v l :=
  hasA_keep h fun k hk hk' => ho.block k hk' (by simp; omega)
theorem hasA_alloc {w : World} {B : Nat} {v : Value} {l : List A3} (h : HasA w B v l) (o : Obj) : HasA (w.alloc o) B v l := ⟨h.1.alloc o, h.2⟩
theorem curA_app {w1 w2 : World} {B g b off cap : Nat} {a : Option Addr} {c : List Int} {v : Value} {l : List A3} (hC : Dr.Cur w1 g a b off cap c) (h : HasA w1 B v l) (hg : w1.grownBy w2 v.ownBlock) (h1 : g < B) (h2 : c.length = 0 ∨ b < B) (h3 : B ≤ w1.heap.size) : Dr.Cur w2 g a b off cap c :=
  Dr.cur_keep (B := B) hC (fun q hq => hg.block q (by omega) (fun e => by have := (h.1.lt q e.symm).1; omega)) h1 h2
theorem onlyA_app {w w1 w2 : World} {B g : Nat} {v : Value} {l : List A3} (hO : Mk.Only g w w1) (h : HasA w1 B v l) (hg : w1.grownBy w2 v.ownBlock) (hB : w.heap.size ≤ B) : Mk.Only g w w2 :=
  Dr.only_grown hO hg (fun q hq => by have := (h.1.lt q hq).1; omega)
theorem own_emptyA (w : World) : HasA (w.alloc (.cells #[] 147)) w.heap.size (.slice (some ⟨w.heap.size, 0, none⟩) 0 0) [] := ⟨by simpa [flatA] using World.ownsRow_made (size := 3) (e := 147) w #[] 0 (Nat.le_refl _) (Nat.zero_le _) rfl, by simp⟩
theorem hasA_form {w : World} {B : Nat} {v : Value} {l : List A3} (h : HasA w B v l) (hs : l.length ≤ 4194304) :
    ∃ g cap, v = .slice (some ⟨g, 0, none⟩) l.length cap ∧ B ≤ g ∧ Yb.Rd w (some ⟨g, 0, none⟩) g 0 l ∧ l.length ≤ cap := by
  rcases h.1.2 with ⟨rfl, _⟩ | ⟨g, cap, cur, rfl, hb, hh, hn, _, _, ht⟩
  · exact absurd rfl h.2
  · refine ⟨g, cap, rfl, hb, ⟨fun _ => rfl, fun i hi => ?_, hs⟩, hn⟩
    obtain ⟨q0, q1, q2⟩ := flatA_get l i hi
    have p0 := h.1.cells (g := g) rfl _ _ q0
    have p1 := h.1.cells (g := g) rfl _ _ q1
    have p2 := h.1.cells (g := g) rfl _ _ q2
    rw [Yb.add_eq] at p0 p1 p2
    exact ⟨p0, p1, p2⟩
theorem wpList_appA {ops : Array Oper} {rest : List Oper} {o : Oper} {a : Act} {w : World} {Q : Exit → Act → World → Prop} (hgd : o.guard = none) (s x : Operand)
    (ho : o.op = .call { callee := .builtin .append, args := #[s, x], argTypes := #[39, 39] }) (base : Nat) (v : Value) (l : List A3) (m : A3) (hs : a.eval s = v) (hown : HasA w base v l)
    (T c : Nat) (hx : a.eval x = .slice (some ⟨T, 0, none⟩) 1 c) (hT : w.heap[T]? = some (.cells #[.int .i64 m.1, .int .i64 m.2.1, .int .i64 m.2.2] 147 (0, 0))) (hb : l.length ≤ 4194304) (hbase : base ≤ w.heap.size)
    (h : ∀ v' w', HasA w' base v' (l ++ [m]) → w.grownBy w' v.ownBlock → wpList Try.prog ops Q rest (a.put o.dst v') w') : wpList Try.prog ops Q (o :: rest) a w := by
  obtain ⟨i0, hi, hz0, hz1, hz2⟩ := info_parts info76
  refine wpList_append_own _ hgd s x 39 ho base 147 i0 (.agg #[.int .i64 0, .int .i64 0, .int .i64 0]) 3 24 Try.underlying39 hi hz0 hz1 hz2 rfl (by decide) v l.length (flatA l) hs hown.1 ⟨T, 0, none⟩ 1 c (cellsA m) hx rfl (by
      intro j u hj
      have hjl : j < 3 := by have := (List.getElem?_eq_some_iff.1 hj).1; simpa [cellsA] using this
      rw [Yb.add_eq, Nat.zero_add]
      match j, hjl with
      | 0, _ => simp [cellsA] at hj; subst hj; simp [World.cell?, hT]
      | 1, _ => simp [cellsA] at hj; subst hj; simp [World.cell?, hT]
      | 2, _ => simp [cellsA] at hj; subst hj; simp [World.cell?, hT]) (by intro u hu; simp [cellsA] at hu; rcases hu with rfl | rfl | rfl <;> rfl) (by unfold maxLen; omega) (by omega) hbase ?_
  intro v' w' h1 h2 h3
  refine h v' w' ⟨by have e : flatA (l ++ [m]) = flatA l ++ cellsA m := (by simp [flatA]); rw [e]; simpa using h1, fun e => ?_⟩ h2
  exact hown.2 (h3.1 e).1

/-- A row of actions is handed back, in memory of the call's own, and the cursor goes on. -/
def ActD (w : World) (g : Nat) (a : Option Addr) (b off cap : Nat) (c : List Int) (e : Ending) (w' : World) : Prop :=
  ∃ v l, e = .returned v ∧ HasA w' w.heap.size v l ∧ l.length ≤ 13 ∧ Dr.Cur w' g a b off cap c ∧ Mk.Only g w w'

end Go.Proofs.Ytcbgnfjnjfaacaa.Yx
namespace Go.Proofs.Ytcbgnfjnjfaacaa.Cp
set_option maxRecDepth 8000
set_option linter.unusedSimpArgs false
set_option linter.unusedVariables false
open Go Go.RowKit
open Num Pl Ea Em

theorem exec_app {o : Oper} {a : Act} {w w' : World} {v v' u : Value} {t : TypeId} (s x : Operand) (ho : o.op = .call { callee := .builtin .append, args := #[s, x], argTypes := #[t, t] }) (hs : a.eval s = v) (hx : a.eval x = u)
    (hr : (Builtin.append_ #[t, t] o.type #[v, u]).run Try.prog w = .ok v' w') : (execOp a.eval o).run Try.prog w = .ok (.value v') w' := by
  unfold execOp
  simp only [ho, resolve, invoke, builtin, Sem.run_bind, Sem.run_pure, Result.andThen_ok, List.map_toArray, List.map_cons, List.map_nil, hs, hx, hr]
theorem exec_empty {o : Oper} {a : Act} {w : World} (ho : o.op = .buildSlice 23 0 #[]) : (execOp a.eval o).run Try.prog w = .ok (.value (.slice (some ⟨w.heap.size, 0, none⟩) 0 0)) (w.alloc (.cells #[] 3)) := by
  unfold execOp
  rw [ho]
  kernel_rfl

/-- A copy of integers: a slice of the call's own that reads so. -/
def NewI (w : World) (l : List Int) (v : Value) (w' : World) : Prop := ∃ a g cap, v = .slice a l.length cap ∧ Hr.Wt w' a g l ∧ (l.length = 0 ∨ w.heap.size ≤ g)
theorem eqlN (n c : Nat) (w : World) : (binOp BinOp.eql 23 (.slice none n c) (.slice none 0 0)).run Try.prog w = .ok (.bool true) w := by kernel_rfl
theorem eqlAN (n c : Nat) (w : World) : (binOp BinOp.eql 39 (.slice none n c) (.slice none 0 0)).run Try.prog w = .ok (.bool true) w := by kernel_rfl
theorem eqlA (ad : Addr) (n c : Nat) (w : World) : (binOp BinOp.eql 39 (.slice (some ad) n c) (.slice none 0 0)).run Try.prog w = .ok (.bool false) w := by kernel_rfl
theorem app_ints {w : World} {B : Nat} {v : Value} (ty : TypeId) {ad : Addr} {b off c : Nat} {l : List Int} (h : Ht.HasN w B v []) (hr : Hr.Rd w (some ad) b off l) (hB : B ≤ w.heap.size) :
    ∃ v' w', (Builtin.append_ #[23, 23] ty #[v, .slice (some ad) l.length c]).run Try.prog w = .ok v' w' ∧ Ht.HasN w' B v' l ∧ w.grownBy w' v.ownBlock := by
  obtain ⟨i0, hi, hz0, hz1, hz2⟩ := info_parts Hr.info3
  have hs := hr.size
  obtain ⟨v', w', r, h1, h2, h3⟩ := run_append_own (P := Try.prog) w B 23 ty 3 i0 (.int .i64 0) 1 8 Try.underlying23 hi hz0 hz1 hz2 rfl (by decide) v 0 [] (by simpa using h.1) ad l.length c (l.map (Value.int .i64)) (by simp) (Ht.news_of hr) (by intro u hu; simp at hu; obtain ⟨q, _, rfl⟩ := hu; rfl) (by unfold maxLen; omega) (by omega) hB
  exact ⟨v', w', r, ⟨by simpa using h1, fun e => h.2 (h3.1 e).1⟩, h2⟩
theorem none23 (w : World) (ty : TypeId) (g n cap c : Nat) (h : n ≤ cap) : (Builtin.append_ #[23, 23] ty #[.slice (some ⟨g, 0, none⟩) n cap, .slice none 0 c]).run Try.prog w = .ok (.slice (some ⟨g, 0, none⟩) n cap) w := by
  simp [Builtin.append_, go_sem, h]
theorem none39 (w : World) (ty : TypeId) (g n cap c : Nat) (h : n ≤ cap) : (Builtin.append_ #[39, 39] ty #[.slice (some ⟨g, 0, none⟩) n cap, .slice none 0 c]).run Try.prog w = .ok (.slice (some ⟨g, 0, none⟩) n cap) w := by
  simp [Builtin.append_, go_sem, h]
theorem app_any {w : World} {B : Nat} {v : Value} (ty : TypeId) {A : Option Addr} {b off c : Nat} {l : List Int} (h : Ht.HasN w B v []) (hr : Hr.Rd w A b off l) (hB : B ≤ w.heap.size) :
    ∃ v' w', (Builtin.append_ #[23, 23] ty #[v, .slice A l.length c]).run Try.prog w = .ok v' w' ∧ Ht.HasN w' B v' l ∧ w.grownBy w' v.ownBlock := by
  cases A with
  | some ad => exact app_ints ty h hr hB
  | none =>
    have hl : l = [] := by
      rcases Nat.eq_zero_or_pos l.length with h0 | h0
      · exact List.eq_nil_of_length_eq_zero h0
      · exact absurd (hr.head h0) (by simp)
    subst hl
    have h2 := h
    rcases h.1.2 with ⟨rfl, _⟩ | ⟨g, cap, cur, rfl, _, _, hn, _⟩
    · exact absurd rfl h.2
    · exact ⟨_, w, none23 w ty g _ cap c hn, h2, ⟨rfl, rfl, rfl, Nat.le_refl _, fun _ _ _ => rfl⟩⟩
theorem wpList_run {ops : Array Oper} {rest : List Oper} {o : Oper} {a : Act} {w w' : World} {v : Value} {Q : Exit → Act → World → Prop} (hgd : o.guard = none) (hr : (execOp a.eval o).run Try.prog w = .ok (.value v) w')
    (h : wpList Try.prog ops Q rest (a.put o.dst v) w') : wpList Try.prog ops Q (o :: rest) a w := by
  refine wpList_plain hgd fun K hK => ?_
  unfold Oper.wp
  rw [hr]
  exact hK _ _ h

set_option maxHeartbeats 1000000 in
theorem cloneI (a : Option Addr) (b off cap : Nat) (l : List Int) (w : World) (h : Hr.Rd w a b off l) :
    Calls Try.prog 132 #[.slice a l.length cap] w fun e w' => ∃ v, e = .returned v ∧ NewI w l v w' ∧ Below w.heap.size w w' := by
  have hs := h.size
  cases a with
  | none =>
    have hl : l = [] := by
      rcases Nat.eq_zero_or_pos l.length with h0 | h0
      · exact List.eq_nil_of_length_eq_zero h0
      · exact absurd (h.head h0) (by simp)
    subst hl
    have q0 := eqlN 0 cap w
    go_enter Try.func132, Try.ntmps132
    go_wp2
    go_ret
    exact ⟨_, rfl, ⟨none, 0, 0, rfl, Hr.Wt.nil _ _ _, .inl rfl⟩, Below.refl _ _⟩
  | some ad =>
    have B0 := below_alloc1 w (.cells #[] 3)
    have O0 := Ht.own_emptyN w
    have h0 := h.below B0
    have q0 := Yh.eql_some ad l.length cap w
    go_enter Try.func132, Try.ntmps132
    go_wp2_with (at_builtin; refine Ht.wpList_appN rfl (.tmp 5) (.tmp 6) rfl w.heap.size _ [] l rfl O0 ad b off cap rfl h0 (by simp; omega) (by simp) ?_; intro v' w' hown hgrow)
    go_ret
    have hB := Ht.below_own O0 B0 (Nat.le_refl _) hgrow
    obtain ⟨g, cap', rfl, hg, ho, _⟩ := Yh.own_has hown (by simpa using hs)
    simp only [List.nil_append] at ho
    exact ⟨_, rfl, ⟨_, g, cap', rfl, ho.wt, .inr hg⟩, hB⟩

/-- A copy of actions. -/
def NewA (w : World) (l : List Yb.A3) (v : Value) (w' : World) : Prop := ∃ a g cap, v = .slice a l.length cap ∧ WtA w' a g l ∧ (l.length = 0 ∨ w.heap.size ≤ g)
theorem wtA_nil (w : World) (a : Option Addr) (g : Nat) : WtA w a g [] := ⟨fun h => by simp at h, fun j h => by simp at h, fun j h => by simp at h, by simp⟩
theorem news_acts {w : World} {ad : Addr} {b off : Nat} {l : List Yb.A3} (hr : Yb.Rd w (some ad) b off l) : ∀ j u, (Yx.flatA l)[j]? = some u → w.cell? (ad.add j) = some u := by
  intro j u hj
  have hlen : (Yx.flatA l).length = l.length * 3 := by
    clear hr hj
    induction l with
    | nil => rfl
    | cons x l ih => simp only [Yx.flatA, List.flatMap_cons, List.length_append, List.length_cons] at ih ⊢; rw [ih]; simp [Yx.cellsA]; omega
  have hjl : j < l.length * 3 := by rw [← hlen]; exact (List.getElem?_eq_some_iff.1 hj).1
  obtain rfl : ad = ⟨b, off, none⟩ := by simpa using hr.head (by omega)
  obtain ⟨c0, c1, c2⟩ := hr.cell (j / 3) (by omega)
  obtain ⟨q0, q1, q2⟩ := Yx.flatA_get l (j / 3) (by omega)
  rw [Yb.add_eq]
  have e : j = j / 3 * 3 ∨ j = j / 3 * 3 + 1 ∨ j = j / 3 * 3 + 2 := by omega
  rcases e with e | e | e
  · rw [e] at hj ⊢; rw [q0] at hj; rw [← hj]; exact c0
  · rw [e] at hj ⊢; rw [q1] at hj; rw [← hj, ← Nat.add_assoc]; exact c1
  · rw [e] at hj ⊢; rw [q2] at hj; rw [← hj, ← Nat.add_assoc]; exact c2

theorem app_acts {w : World} {B : Nat} {v : Value} (ty : TypeId) {A : Option Addr} {b off c : Nat} {l : List Yb.A3} (h : Yx.HasA w B v []) (hr : Yb.Rd w A b off l) (hB : B ≤ w.heap.size) :
    ∃ v' w', (Builtin.append_ #[39, 39] ty #[v, .slice A l.length c]).run Try.prog w = .ok v' w' ∧ Yx.HasA w' B v' l ∧ w.grownBy w' v.ownBlock := by
  cases A with
  | some ad =>
    obtain ⟨i0, hi, hz0, hz1, hz2⟩ := info_parts Yx.info76
    have hs := hr.size
    have hlen : (Yx.flatA l).length = l.length * 3 := by
      clear hr h hs
      induction l with
      | nil => rfl
      | cons x l ih => simp only [Yx.flatA, List.flatMap_cons, List.length_append, List.length_cons] at ih ⊢; rw [ih]; simp [Yx.cellsA]; omega
    obtain ⟨v', w', r, h1, h2, h3⟩ := run_append_own (P := Try.prog) w B 39 ty 147 i0 (.agg #[.int .i64 0, .int .i64 0, .int .i64 0]) 3 24 Try.underlying39 hi hz0 hz1 hz2 rfl (by decide) v 0 [] (by simpa [Yx.flatA] using h.1) ad l.length c (Yx.flatA l) hlen (news_acts hr) (by
      intro u hu
      simp only [Yx.flatA, List.mem_flatMap] at hu
      obtain ⟨x, _, hx⟩ := hu
      simp [Yx.cellsA] at hx
      rcases hx with rfl | rfl | rfl <;> rfl) (by unfold maxLen; omega) (by omega) hB
    exact ⟨v', w', r, ⟨by simpa using h1, fun e => h.2 (h3.1 e).1⟩, h2⟩
  | none =>
    have hl : l = [] := by
      rcases Nat.eq_zero_or_pos l.length with h0 | h0
      · exact List.eq_nil_of_length_eq_zero h0
      · exact absurd (hr.head h0) (by simp)
    subst hl
    have h2 := h
    rcases h.1.2 with ⟨rfl, _⟩ | ⟨g, cap, cur, rfl, _, _, hn, _⟩
    · exact absurd rfl h.2
    · exact ⟨_, w, none39 w ty g _ cap c hn, h2, ⟨rfl, rfl, rfl, Nat.le_refl _, fun _ _ _ => rfl⟩⟩
theorem hasA_wt {w : World} {B : Nat} {v : Value} {l : List Yb.A3} (h : Yx.HasA w B v l) (hs : l.length ≤ 4194304) : ∃ g cap, v = .slice (some ⟨g, 0, none⟩) l.length cap ∧ B ≤ g ∧ WtA w (some ⟨g, 0, none⟩) g l := by
  rcases h.1.2 with ⟨rfl, _⟩ | ⟨g, cap, cur, rfl, hb, hh, hn, _, _, ht⟩
  · exact absurd rfl h.2
  · refine ⟨g, cap, rfl, hb, ⟨fun _ => rfl, fun j hj => ?_, fun j hj => by simp [World.frozen?, hh], hs⟩⟩
    obtain ⟨q0, q1, q2⟩ := Yx.flatA_get l (j / 3) (by omega)
    have p0 := h.1.cells (g := g) rfl _ _ q0
    have p1 := h.1.cells (g := g) rfl _ _ q1
    have p2 := h.1.cells (g := g) rfl _ _ q2
    rw [Yb.add_eq, Nat.zero_add] at p0 p1 p2
    have e : j = j / 3 * 3 ∨ j = j / 3 * 3 + 1 ∨ j = j / 3 * 3 + 2 := by omega
    rcases e with e | e | e
    · rw [e, Yb.flat0]; exact p0
    · rw [e, Yb.flat1]; exact p1
    · rw [e, Yb.flat2]; exact p2
theorem below_ownA {w w1 w2 : World} {B : Nat} {v : Value} {l : List Yb.A3} (h : Yx.HasA w1 B v l) (hb : Below w.heap.size w w1) (hB : w.heap.size ≤ B) (hg : w1.grownBy w2 v.ownBlock) : Below w.heap.size w w2 :=
  hb.grown hg hb.size (fun k hk => by have := (h.1.lt k hk).1; omega)

set_option maxHeartbeats 1000000 in
theorem cloneA (a : Option Addr) (b off cap : Nat) (l : List Yb.A3) (w : World) (h : Yb.Rd w a b off l) :
    Calls Try.prog 133 #[.slice a l.length cap] w fun e w' => ∃ v, e = .returned v ∧ NewA w l v w' ∧ Below w.heap.size w w' := by
  have hs := h.size
  cases a with
  | none =>
    have hl : l = [] := by
      rcases Nat.eq_zero_or_pos l.length with h0 | h0
      · exact List.eq_nil_of_length_eq_zero h0
      · exact absurd (h.head h0) (by simp)
    subst hl
    have q0 := eqlAN 0 cap w
    go_enter Try.func133, Try.ntmps133
    go_wp2
    go_ret
    exact ⟨_, rfl, ⟨none, 0, 0, rfl, wtA_nil _ _ _, .inl rfl⟩, Below.refl _ _⟩
  | some ad =>
    have B0 := below_alloc1 w (.cells #[] 147)
    have O0 := Yx.own_emptyA w
    have h0 := h.below B0
    have q0 := eqlA ad l.length cap w
    obtain ⟨v', w', hrun, hown, hgrow⟩ := app_acts 39 (c := cap) O0 h0 (by simp)
    go_enter Try.func133, Try.ntmps133
    go_wp2_with (at_builtin; refine wpList_run rfl (exec_app (.tmp 5) (.tmp 6) rfl rfl rfl hrun) ?_)
    go_ret
    have hB := below_ownA O0 B0 (Nat.le_refl _) hgrow
    obtain ⟨g, cap', rfl, hg, ho⟩ := hasA_wt hown hs
    exact ⟨_, rfl, ⟨_, g, cap', rfl, ho, .inr hg⟩, hB⟩

/-- An entry of the call's own, from block lo on. -/
structure NewE (lo : Nat) (w : World) (f : Ent) : Prop where
  wt : WtE w f
  own : Own3 f
  lo : ∀ x, Uses f x → lo ≤ x
  wV : Po.Wide f.V
  wM : Po.Wide f.M
  oV : f.oV = 0
  oM : f.oM = 0
  oA : f.oA = 0
theorem NewE.below {lo : Nat} {w w' : World} {f : Ent} (h : NewE lo w f) (hb : Below w.heap.size w w') : NewE lo w' f := { h with wt := h.wt.below hb }
theorem NewE.ok {lo : Nat} {w : World} {f : Ent} (h : NewE lo w f) : f.Ok w := by
  refine ⟨?_, ?_, ?_, h.wV, h.wM⟩
  · rw [h.oV]; exact h.wt.V.rd
  · rw [h.oM]; exact h.wt.M.rd
  · rw [h.oA]; exact h.wt.A.rd

end Go.Proofs.Ytcbgnfjnjfaacaa.Cp
namespace Go.Proofs.Ytcbgnfjnjfaacaa.Cp
set_option maxRecDepth 8000
set_option linter.unusedSimpArgs false
set_option linter.unusedVariables false
open Go Go.RowKit
open Num Pl Ea Em

/-- A copy of an entry is handed back. -/
def ResE (w : World) (e : Ent) (x : Ending) (w' : World) : Prop := ∃ f : Ent, x = .returned (.agg f.vals) ∧ f.said = e.said ∧ NewE w.heap.size w' f ∧ Below w.heap.size w w'

/-- The three copies, in their order. -/
theorem new_three {w0 w1 w2 w3 : World} {ep pr hh : Int} {V M : List Int} {A : List Yb.A3} {aV aM aA : Option Addr} {gV gM gA cV cM cA : Nat} (wV : Po.Wide V) (wM : Po.Wide M)
    (mV : Hr.Wt w3 aV gV V) (mM : Hr.Wt w3 aM gM M) (mA : WtA w3 aA gA A) (lV : V.length = 0 ∨ w0.heap.size ≤ gV) (hV : V.length = 0 ∨ gV < w1.heap.size) (lM : M.length = 0 ∨ w1.heap.size ≤ gM) (hM : M.length = 0 ∨ gM < w2.heap.size) (lA : A.length = 0 ∨ w2.heap.size ≤ gA) (s1 : w0.heap.size ≤ w1.heap.size) (s2 : w1.heap.size ≤ w2.heap.size) :
    NewE w0.heap.size w3 ⟨ep, pr, V, M, A, hh, aV, gV, 0, cV, aM, gM, 0, cM, aA, gA, 0, cA⟩ := by
  refine ⟨⟨mV, mM, mA⟩, ⟨fun h1 h2 => ?_, fun h1 h2 => ?_, fun h1 h2 => ?_⟩, fun x hx => ?_, wV, wM, rfl, rfl, rfl⟩
  · simp only at h1 h2 ⊢; omega
  · simp only at h1 h2 ⊢; omega
  · simp only at h1 h2 ⊢; omega
  · simp only [Uses] at hx; omega

theorem wt_set {w : World} {a : Option Addr} {g b i : Nat} {l : List Int} {u : Value} (h : Hr.Wt w a g l) (hb : l.length = 0 ∨ b ≠ g) : Hr.Wt (w.setCell ⟨b, i, none⟩ u) a g l := wt_keep h fun h0 => blk_other rfl (by omega)
theorem wtA_set {w : World} {a : Option Addr} {g b i : Nat} {l : List Yb.A3} {u : Value} (h : WtA w a g l) (hb : l.length = 0 ∨ b ≠ g) : WtA (w.setCell ⟨b, i, none⟩ u) a g l := h.keep fun h0 => blk_other rfl (by omega)

set_option maxHeartbeats 4000000 in
theorem copyE (e : Ent) (w : World) (h : e.Ok w) : Calls Try.prog 79 #[.agg e.vals] w (ResE w e) := by
  obtain ⟨ep, pr, V, M, A, hh, aV, bV, oV, cV, aM, bM, oM, cM, aA, bA, oA, cA⟩ := e
  obtain ⟨rV, rM, rA, wV, wM⟩ := h
  simp only at rV rM rA wV wM
  simp only [Ent.vals]
  obtain ⟨W1, hW1⟩ : ∃ W1, W1 = (w.alloc (.cells #[.int .i64 ep, .int .i64 pr, .slice aV V.length cV, .slice aM M.length cM, .slice aA A.length cA, .int .i64 hh] 41)).alloc (.cells #[.int .i64 0, .int .i64 0, .slice none 0 0, .slice none 0 0, .slice none 0 0, .int .i64 0] 41) := ⟨_, rfl⟩
  have B1 : Below w.heap.size w W1 := by subst hW1; exact Rw.next (below_alloc1 _ _) (below_alloc1 _ _)
  have k0 : W1.heap[w.heap.size]? = some (.cells #[.int .i64 ep, .int .i64 pr, .slice aV V.length cV, .slice aM M.length cM, .slice aA A.length cA, .int .i64 hh] 41 (0, 0)) := by subst hW1; rw [at_old (by simp), at_new rfl]
  have k1 : W1.heap[w.heap.size + 1]? = some (.cells #[.int .i64 0, .int .i64 0, .slice none 0 0, .slice none 0 0, .slice none 0 0, .int .i64 0] 41 (0, 0)) := by subst hW1; exact at_new (by simp)
  have RM : Hid (Hr.Rd w aM bM oM M) := rM
  have RA : Hid (Yb.Rd w aA bA oA A) := rA
  have rV1 := (rV.below B1).below ((Below.refl _ _).drew)
  clear rV rM rA
  obtain ⟨p0, p1, p2, p3, p4, p5⟩ := six k0
  have f0 := Bl.free k0
  have HB : Hid (Below w.heap.size w W1) := B1
  have lW1 : w.heap.size + 1 < W1.heap.size := blk_lt k1
  go_enter Try.func79, Try.ntmps79
  go_wp2
  rw [← hW1]
  clear hW1
  have t1 : True := trivial
  go_region_with (first
    | (go_at_call 132; clear t1; refine (cloneI _ _ _ _ V _ rV1).mono ?_; rintro x wa ⟨vV, rfl, ⟨aV1, gV, cV1, rfl, mV, lV0⟩, hb0⟩; have lV : V.length = 0 ∨ W1.heap.size ≤ gV := lV0; clear lV0; have hb := Rw.next ((Below.refl _ _).drew) hb0; clear p0 p1 p2 p3 p4 p5 f0; replace k0 := (hb.block _ (blk_lt k0)).trans k0; replace k1 := (hb.block _ (blk_lt k1)).trans k1; have l1 := blk_lt k1; replace B1 := Rw.next B1 hb; have s1 : W1.heap.size ≤ wa.heap.size := hb.size; have hV := Hr.wt_lt mV; clear hb hb0; obtain ⟨p0, p1, p2, p3, p4, p5⟩ := six k0; have f0 := Bl.free k0; have t2 : True := trivial)
    | (go_at_call 132; clear t2; refine (cloneI _ _ _ _ M _ (RM.out.below B1)).mono ?_; rintro x wb ⟨vM, rfl, ⟨aM1, gM, cM1, rfl, mM, lM⟩, hb⟩; clear p0 p1 p2 p3 p4 p5 f0; replace k0 := (hb.block _ (blk_lt k0)).trans k0; replace k1 := (hb.block _ (blk_lt k1)).trans k1; replace B1 := Rw.next B1 hb; have s2 := hb.size; have hM := Hr.wt_lt mM; replace mV := mV.below hb; clear hb; obtain ⟨p0, p1, p2, p3, p4, p5⟩ := six k0; have f0 := Bl.free k0))
  all_goals (
    obtain ⟨W2, hW2⟩ : ∃ W2, W2 = (wb.setCell ⟨w.heap.size, 2, none⟩ (.slice aV1 V.length cV1)).setCell ⟨w.heap.size, 3, none⟩ (.slice aM1 M.length cM1) := ⟨_, rfl⟩
    have sz := HB.out.size
    have l0 := blk_lt k0
    have w2s : W2.heap.size = wb.heap.size := by subst hW2; simp
    have B2 : Below w.heap.size w W2 := by subst hW2; exact Pm.bset (Pm.bset B1 (Nat.le_refl _)) (Nat.le_refl _)
    have m0 : W2.heap[w.heap.size]? = some (.cells #[.int .i64 ep, .int .i64 pr, .slice aV1 V.length cV1, .slice aM1 M.length cM1, .slice aA A.length cA, .int .i64 hh] 41 (0, 0)) := by subst hW2; exact blk_same (blk_same k0)
    have m1 : W2.heap[w.heap.size + 1]? = some (.cells #[.int .i64 0, .int .i64 0, .slice none 0 0, .slice none 0 0, .slice none 0 0, .int .i64 0] 41 (0, 0)) := by subst hW2; exact blk_other (blk_other k1 (by omega)) (by omega)
    have vV : Hr.Wt W2 aV1 gV V := wt_keep mV fun h0 => by subst hW2; exact blk_other (blk_other rfl (by omega)) (by omega)
    have vM : Hr.Wt W2 aM1 gM M := wt_keep mM fun h0 => by subst hW2; exact blk_other (blk_other rfl (by omega)) (by omega)
    clear k0 k1 mV mM B1
    go_wp2_with (go_at_call 133; rw [← hW2]; clear hW2; refine (cloneA _ _ _ _ A _ (RA.out.below B2)).mono ?_; rintro x wc ⟨vA, rfl, ⟨aA1, gA, cA1, rfl, mA, lA⟩, hb⟩; replace m0 := (hb.block _ (blk_lt m0)).trans m0; replace m1 := (hb.block _ (blk_lt m1)).trans m1; replace B2 := Rw.next B2 hb; have s3 := hb.size; replace vV := vV.below hb; replace vM := vM.below hb; clear hb p0 p1 p2 p3 p4 p5 f0; obtain ⟨p0, p1, p2, p3, p4, p5⟩ := six m0; obtain ⟨q0, q1, q2, q3, q4, q5⟩ := six m1; have f0 := Bl.free m0; have f1 := Bl.free m1)
    refine bodyPost_ret (v := .agg #[.int .i64 ep, .int .i64 pr, .slice aV1 V.length cV1, .slice aM1 M.length cM1, .slice aA1 A.length cA1, .int .i64 hh]) (by simp [results, Try.results79, go_sem, q0, q1, q2, q3, q4, q5]) rfl ⟨⟨ep, pr, V, M, A, hh, aV1, gV, 0, cV1, aM1, gM, 0, cM1, aA1, gA, 0, cA1⟩, rfl, rfl, ?_, ?_⟩
    · refine new_three (w0 := w) (w1 := wa) (w2 := wb) wV wM ?_ ?_ ?_ (by omega) hV lM hM (by omega) (by omega) s2
      · repeat (first | with_reducible exact vV | refine wt_set ?_ (by omega))
      · repeat (first | with_reducible exact vM | refine wt_set ?_ (by omega))
      · repeat (first | with_reducible exact mA | refine wtA_set ?_ (by omega))
    · repeat (first | with_reducible exact B2 | refine Pm.bset ?_ (by omega)))

end Go.Proofs.Ytcbgnfjnjfaacaa.Cp
