/-
  The program's Perform: action after action.
-/
import Derived.Test.YtkakdldhinimoaaYk
import Derived.Test.YtkakdldhinimoaaYa
import Derived.Test.YtkakdldhinimoaaMq
namespace Go.Proofs.Ytkakdldhinimoaa.Yl
set_option maxRecDepth 8000
set_option linter.unusedSimpArgs false
open Go Go.RowKit
open Num Pl Hr Hh Pq Ht Yh Yj Yk Yb Yc Yd

theorem hid {p : Prop} (h : p) : Hid p := h
theorem upto_of {l : List Int} : ∀ j : Nat, (∀ i : Nat, i < j → Hg.fits i (l.getD i 0) = true) → Hg.upto l j = true
  | 0, _ => rfl
  | j + 1, h => Hg.upto_step (upto_of j fun i hi => h i (by omega)) (h j (by omega))
theorem headB_set {l : List Int} {F : Nat} {x : Int} (h : Hg.headB l = true) (hF : Hg.fits F x = true) : Hg.headB (l.set F x) = true := by
  have hl := head_len h
  unfold Hg.headB
  rw [List.length_set, hl]
  simp only [decide_true, Bool.true_and]
  refine upto_of 8 fun i hi => ?_
  rw [set_at (by omega)]
  split
  · next e => subst e; exact hF
  · exact Mq.head_at h hi

/-- The head behind the first k actions. -/
def nowK (l : List A3) (h : List Int) : Nat → List Int
  | 0 => h
  | k + 1 => next (nowK l h k) (l.getD k z3)
/-- What the first k actions send. -/
def sentK (hin : Int) (ports : List Int) (l : List A3) (h : List Int) : Nat → List (Int × List Int)
  | 0 => []
  | k + 1 => sentK hin ports l h k ++ goes hin ports (nowK l h (k + 1)) (l.getD k z3)
theorem act_set {x : A3} (hx : actB x = true) (h3 : x.1 = 3) : ∃ F : Nat, x.2.1 = F ∧ F < 8 ∧ Hg.fits F x.2.2 = true := by
  obtain ⟨x0, a, b⟩ := x
  simp only at h3
  subst h3
  rw [actB_set, Bool.and_eq_true] at hx
  have h1 := of_decide_eq_true hx.1
  refine ⟨a.toNat, ?_, ?_, ?_⟩
  · simp only; omega
  · omega
  · have : ((a.toNat : Nat) : Int) = a := by omega
    rw [this]; exact hx.2
theorem head_next {x : A3} {now : List Int} (hx : actB x = true) (h : Hg.headB now = true) : Hg.headB (next now x) = true := by
  unfold next
  split
  · next h3 =>
    obtain ⟨F, e, hF, hf⟩ := act_set hx h3
    rw [e]
    exact headB_set h hf
  · exact h
theorem head_nowK {l : List A3} {h : List Int} (hB : Hg.headB h = true) : ∀ k, pre l k → Hg.headB (nowK l h k) = true
  | 0, _ => hB
  | k + 1, hp => head_next (hp k (by omega)) (head_nowK hB k fun i hi => hp i (by omega))
theorem goes_len (hin : Int) (ports now : List Int) (x : A3) (h : ports.length ≤ 8) : (goes hin ports now x).length ≤ 8 := by
  unfold goes
  split
  · split <;> simp
  · split
    · rw [List.length_map]; exact Nat.le_trans (List.length_filter_le _ _) h
    · simp
theorem sentK_len (hin : Int) (ports : List Int) (l : List A3) (h : List Int) (hp : ports.length ≤ 8) : ∀ k, (sentK hin ports l h k).length ≤ 8 * k
  | 0 => by simp [sentK]
  | k + 1 => by
    have := sentK_len hin ports l h hp k
    have := goes_len hin ports (nowK l h (k + 1)) (l.getD k z3) hp
    simp only [sentK, List.length_append]; omega

theorem do_any {w : World} {P B : Nat} {hin : Int} {pa : Option Addr} {pb po pc : Nat} {ports : List Int} {hb ho hc : Nat} {now : List Int} {v : Value} {Q : List E} (x : A3) (hx : actB x = true) (st : St w P B hin pa pb po pc ports hb ho hc now v Q) (hB : Hg.headB now = true) (hQ : Q.length + ports.length ≤ 4096) :
    Calls Try.prog 66 #[.pointer (some ⟨P, 0, none⟩), actV x] w (Did w P B hin pa pb po pc ports (next now x) (said Q ++ goes hin ports (next now x) x)) := by
  obtain ⟨x0, x1, x2⟩ := x
  by_cases k1 : x0 = 1
  · subst k1
    have e1 : actV (1, x1, x2) = .iface 124 (.agg #[.int .i64 x1]) := rfl
    have e2 : next now (1, x1, x2) = now := rfl
    rw [e1, e2]
    cases hm : decide (x1 ∈ ports)
    · have e3 : goes hin ports now (1, x1, x2) = [] := by simp [goes]; intro h; exact absurd h (of_decide_eq_false hm)
      rw [e3, List.append_nil]
      exact do1_no st hm
    · by_cases hi : x1 = hin
      · have e3 : goes hin ports now (1, x1, x2) = [] := by simp [goes, hi]
        rw [e3, List.append_nil]
        exact do1_in st hi hm
      · have e3 : goes hin ports now (1, x1, x2) = [(x1, now)] := by simp [goes, hi, of_decide_eq_true hm]
        rw [e3]
        exact do1_out st hi (by omega) hm
  by_cases k2 : x0 = 2
  · subst k2
    have e1 : actV (2, x1, x2) = .iface 127 (.agg #[]) := rfl
    have e2 : next now (2, x1, x2) = now := rfl
    have e3 : goes hin ports now (2, x1, x2) = flood hin ports now ports.length := by simp [goes, flood]
    rw [e1, e2, e3]
    exact do2 st hQ
  by_cases k3 : x0 = 3
  · subst k3
    obtain ⟨F, e, hF, hf⟩ := act_set hx rfl
    simp only at e hf
    subst e
    have e1 : actV (3, (F : Int), x2) = .iface 129 (.agg #[.int .i64 F, .int .i64 x2]) := rfl
    have e2 : next now (3, (F : Int), x2) = now.set F x2 := rfl
    have e3 : goes hin ports (now.set F x2) (3, (F : Int), x2) = [] := rfl
    rw [e1, e2, e3, List.append_nil]
    exact do3 st hB hf
  have hk : x0 = 4 ∨ x0 = 5 := by
    simp [actB, k1, k3] at hx
    omega
  rcases hk with rfl | rfl
  · have e1 : actV (4, x1, x2) = .iface 139 (.agg #[]) := rfl
    have e2 : next now (4, x1, x2) = now := rfl
    have e3 : goes hin ports now (4, x1, x2) = [] := rfl
    rw [e1, e2, e3, List.append_nil]
    exact do4 st
  · have e1 : actV (5, x1, x2) = .iface 140 (.agg #[]) := rfl
    have e2 : next now (5, x1, x2) = now := rfl
    have e3 : goes hin ports now (5, x1, x2) = [] := rfl
    rw [e1, e2, e3, List.append_nil]
    exact do5 st

/-- What is sent, and a bool, are handed back in memory of the call's own. -/
def ResP (w : World) (ok : Bool) (L : List (Int × List Int)) (e : Ending) (w' : World) : Prop :=
  ∃ B v Q, e = .returned (.tuple #[v, .bool ok]) ∧ Sn w' B v Q ∧ w.heap.size ≤ B ∧ said Q = L ∧ Below w.heap.size w w'
theorem res_no {w w' : World} (h : Below w.heap.size w w') : ResP w false [] (.returned (.tuple #[.slice none 0 0, .bool false])) w' := ⟨w.heap.size, _, [], rfl, Sn.nil _ _, Nat.le_refl _, rfl, h⟩

set_option maxHeartbeats 4000000 in
theorem perfI_no (ha : Option Addr) (hb ho hc : Nat) (h : List Int) (pa : Option Addr) (pb po pc : Nat) (ports : List Int) (a : Option Addr) (b off cap : Nat) (l : List A3) (w : World)
    (hh : Rd w ha hb ho h) (hp : Rd w pa pb po ports) (hl : Yb.Rd w a b off l) (hno : (actsB l && Hg.headB h && Ya.portsB ports) = false) :
    Calls Try.prog 28 #[.agg #[.slice ha h.length hc], .slice pa ports.length pc, .slice a l.length cap] w (ResP w false []) := by
  obtain ⟨W0, hW0⟩ : ∃ W0, W0 = w.alloc (.cells #[.slice ha h.length hc] 42) := ⟨_, rfl⟩
  have B0 : Below w.heap.size w W0 := by subst hW0; exact below_alloc1 _ _
  have k0 : W0.heap[w.heap.size]? = some (.cells #[.slice ha h.length hc] 42 (0, 0)) := by subst hW0; exact at_new rfl
  have z0 : w.heap.size < W0.heap.size := by subst hW0; simp
  replace hh := hh.below B0
  replace hp := hp.below B0
  replace hl := hl.below B0
  cases h1 : actsB l
  · go_enter Try.func28, Try.ntmps28
    go_wp2_with (go_at_call 58; rw [← hW0]; refine (acts_any _ _ _ _ _ _ hl).mono ?_; rintro e w1 ⟨hb1, q0, q1⟩; obtain rfl := q0 h1; clear q0 q1)
    exact bodyPost_ret (v := .tuple #[.slice none 0 0, .bool false]) (by simp [results, Try.results28, go_sem]) rfl (res_no (Rw.next B0 hb1))
  · cases h2 : Hg.headB h
    · go_enter Try.func28, Try.ntmps28
      go_wp2_with (first | (go_at_call 58; rw [← hW0]; refine (acts_any _ _ _ _ _ _ hl).mono ?_; rintro e w1 ⟨hb1, q0, q1⟩; obtain ⟨rfl, _⟩ := q1 h1; clear q0 q1; replace hh := hh.below hb1; replace k0 := (hb1.block _ z0).trans k0; replace B0 := Rw.next B0 hb1; have c0 := Hh.one k0) | (go_at_call 41; refine (Hg.implOk_any _ _ _ _ _ _ hh).mono ?_; rw [h2]; rintro e w2 ⟨rfl, hb2⟩))
      exact bodyPost_ret (v := .tuple #[.slice none 0 0, .bool false]) (by simp [results, Try.results28, go_sem]) rfl (res_no (Rw.next B0 hb2))
    · have h3 : Ya.portsB ports = false := by rw [h1, h2] at hno; simpa using hno
      go_enter Try.func28, Try.ntmps28
      go_wp2_with (first | (go_at_call 58; rw [← hW0]; refine (acts_any _ _ _ _ _ _ hl).mono ?_; rintro e w1 ⟨hb1, q0, q1⟩; obtain ⟨rfl, _⟩ := q1 h1; clear q0 q1; replace hh := hh.below hb1; replace hp := hp.below hb1; replace k0 := (hb1.block _ z0).trans k0; replace B0 := Rw.next B0 hb1; have c0 := Hh.one k0) | (go_at_call 41; refine (Hg.implOk_any _ _ _ _ _ _ hh).mono ?_; rw [h2]; rintro e w2 ⟨rfl, hb2⟩; replace hp := hp.below hb2) | (go_at_call 14; refine (Ya.portsI _ _ _ _ _ _ hp).mono ?_; rw [h3]; rintro e w3 ⟨rfl, hw⟩; replace hw := hw.symm; subst hw))
      exact bodyPost_ret (v := .tuple #[.slice none 0 0, .bool false]) (by simp [results, Try.results28, go_sem]) rfl (res_no (Rw.next B0 hb2))

set_option maxHeartbeats 4000000 in
theorem perfI_yes (ha : Option Addr) (hb ho hc : Nat) (h : List Int) (pa : Option Addr) (pb po pc : Nat) (ports : List Int) (a : Option Addr) (b off cap : Nat) (l : List A3) (w : World)
    (hh : Rd w ha hb ho h) (hp : Rd w pa pb po ports) (hl : Yb.Rd w a b off l) (h1 : actsB l = true) (h2 : Hg.headB h = true) (h3 : Ya.portsB ports = true) :
    Calls Try.prog 28 #[.agg #[.slice ha h.length hc], .slice pa ports.length pc, .slice a l.length cap] w (ResP w true (sentK (h.getD 0 0) ports l h l.length)) := by
  have h8 := head_len h2
  obtain ⟨rfl, hin0⟩ := Hg.at_rd hh (k := 0) (by omega)
  obtain ⟨hin, ehin⟩ : ∃ hin, hin = h.getD 0 0 := ⟨_, rfl⟩
  rw [← ehin] at hin0 ⊢
  have HIN : Hid (hin = h.getD 0 0) := ehin
  clear ehin
  rw [Nat.add_zero] at hin0
  have hp8 : ports.length ≤ 8 := (of_decide_eq_true h3).1
  obtain ⟨hl12, hpre⟩ := actsB_out h1
  obtain ⟨W0, hW0⟩ : ∃ W0, W0 = w.alloc (.cells #[.slice (some ⟨hb, ho, none⟩) 8 hc] 42) := ⟨_, rfl⟩
  have B0 : Below w.heap.size w W0 := by subst hW0; exact below_alloc1 _ _
  have k0 : W0.heap[w.heap.size]? = some (.cells #[.slice (some ⟨hb, ho, none⟩) 8 hc] 42 (0, 0)) := by subst hW0; exact at_new rfl
  have z0 : w.heap.size < W0.heap.size := by subst hW0; simp
  have ZW : Hid (W0.heap.size = w.heap.size + 1) := by unfold Hid; subst hW0; simp
  replace hh := hh.below B0
  replace hp := hp.below B0
  replace hl := hl.below B0
  have hOk := fun w1 (q : Rd w1 (some ⟨hb, ho, none⟩) hb ho h) => Hg.implOk_any _ _ _ hc _ _ q
  rw [h8] at hOk
  have HOK := hid hOk
  clear hOk
  rw [h8]
  obtain ⟨n, hn⟩ : ∃ n, n = l.length := ⟨_, rfl⟩
  have HACT := hid (acts_any a b off cap l W0 hl)
  rw [← hn] at HACT hl12 hpre ⊢
  have HN : Hid (n = l.length) := hn
  have HPRE : Hid (pre l n) := hpre
  clear hpre hn hl
  go_enter Try.func28, Try.ntmps28
  go_wp2_with (first | (go_at_call 58; rw [← hW0]; refine HACT.out.mono ?_; rintro e w1 ⟨hb1, q0, q1⟩; obtain ⟨rfl, hrow⟩ := q1 h1; clear q0 q1 HACT; have zr := hrow.lt; replace hh := hh.below hb1; replace hp := hp.below hb1; replace k0 := (hb1.block _ z0).trans k0; replace z0 := Nat.lt_of_lt_of_le z0 hb1.size; replace B0 := Rw.next B0 hb1; have c0 := Hh.one k0) | (go_at_call 41; refine (HOK.out _ hh).mono ?_; rw [h2]; rintro e w2 ⟨rfl, hb2⟩; replace hh := hh.below hb2; replace hp := hp.below hb2; replace k0 := (hb2.block _ z0).trans k0; replace z0 := Nat.lt_of_lt_of_le z0 hb2.size; replace hrow := hrow.of_block (hb2.block _ zr); replace B0 := Rw.next B0 hb2) | (go_at_call 14; refine (Ya.portsI _ _ _ _ _ _ hp).mono ?_; rw [h3]; rintro e w3 ⟨rfl, hw⟩; replace hw := hw.symm; subst hw))
  clear HOK
  have x0 := Hh.one k0
  have x1 : w2.cell? ⟨hb, ho, none⟩ = some (.int .i64 hin) := (B0.cell (World.block_lt_of_cell? _ _ hin0)).trans hin0
  have x0d : w2.drew.cell? ⟨w.heap.size, 0, none⟩ = some (.slice (some ⟨hb, ho, none⟩) 8 hc) := x0
  have x1d : w2.drew.cell? ⟨hb, ho, none⟩ = some (.int .i64 hin) := x1
  refine wp_region_held_drew (S := fun w' => w'.cell? ⟨w.heap.size, 0, none⟩ = some (.slice (some ⟨hb, ho, none⟩) 8 hc) ∧ w'.cell? ⟨hb, ho, none⟩ = some (.int .i64 hin)) (by kernel_rfl) ⟨x0, x1⟩ (fun hHeld => ?_)
  refine take (i := 0) (d := some 30) (v := .pointer (some ⟨w.heap.size, 0, none⟩)) rfl (by kernel_rfl) (by kernel_rfl) (by kernel_rfl) (by kernel_rfl) (fun _ _ _ h => h) (Or.inl ⟨by rfl, by intro w hSw; go_simp⟩) hHeld ?_
  simp only [Act.put, List.setIfInBounds_toArray, List.set_cons_zero, List.set_cons_succ]
  refine take (i := 1) (d := some 31) (v := .slice (some ⟨hb, ho, none⟩) 8 hc) rfl (by kernel_rfl) (by kernel_rfl) (by kernel_rfl) (by kernel_rfl) (fun _ _ _ h => h) (Or.inl ⟨by rfl, by intro w hSw; have q1 := hSw.1; go_simp⟩) hHeld ?_
  simp only [Act.put, List.setIfInBounds_toArray, List.set_cons_zero, List.set_cons_succ]
  refine take (i := 2) (d := some 32) (v := .pointer (some ⟨hb, ho, none⟩)) rfl (by kernel_rfl) (by kernel_rfl) (by kernel_rfl) (by kernel_rfl) (fun _ _ _ h => h) (Or.inl ⟨by rfl, by intro w hSw; go_simp⟩) hHeld ?_
  simp only [Act.put, List.setIfInBounds_toArray, List.set_cons_zero, List.set_cons_succ]
  refine take (i := 3) (d := some 33) (v := .int .i64 hin) rfl (by kernel_rfl) (by kernel_rfl) (by kernel_rfl) (by kernel_rfl) (fun _ _ _ h => h) (Or.inl ⟨by rfl, by intro w hSw; have q1 := hSw.2; go_simp⟩) hHeld ?_
  simp only [Act.put, List.setIfInBounds_toArray, List.set_cons_zero, List.set_cons_succ]
  refine take (i := 4) (d := some 34) (v := .slice pa ports.length pc) rfl (by kernel_rfl) (by kernel_rfl) (by kernel_rfl) (by kernel_rfl) (fun _ _ _ h => h) (Or.inl ⟨by rfl, by intro w hSw; go_simp⟩) hHeld ?_
  simp only [Act.put, List.setIfInBounds_toArray, List.set_cons_zero, List.set_cons_succ]
  refine take (i := 5) (d := some 35) (v := .agg #[.slice (some ⟨hb, ho, none⟩) 8 hc]) rfl (by kernel_rfl) (by kernel_rfl) (by kernel_rfl) (by kernel_rfl) (fun _ _ _ h => h) (Or.inl ⟨by rfl, by intro w hSw; have q1 := hSw.1; go_simp⟩) hHeld ?_
  simp only [Act.put, List.setIfInBounds_toArray, List.set_cons_zero, List.set_cons_succ]
  refine take (i := 6) (d := some 36) (v := .agg #[.int .i64 hin, .slice pa ports.length pc, .slice (some ⟨hb, ho, none⟩) 8 hc, .slice none 0 0]) rfl (by kernel_rfl) (by kernel_rfl) (by kernel_rfl) (by kernel_rfl) (fun _ _ _ h => h) (Or.inl ⟨by rfl, by intro w hSw; go_simp⟩) hHeld ?_
  simp only [Act.put, List.setIfInBounds_toArray, List.set_cons_zero, List.set_cons_succ]
  refine wpAnyH_ready (rs := [7]) (by kernel_rfl) (by simp) (readyRun (i := 7) rfl (by kernel_rfl) (some 10) (by kernel_rfl) (v := .pointer (some ⟨w2.heap.size, 0, none⟩)) (w' := w2.drew.alloc (.cells #[.int .i64 0, .slice none 0 0, .slice none 0 0, .slice none 0 0] 86)) (by go_simp) ⟨(World.cell?_alloc_some _ _ _ (by rw [x0d]; rfl)).trans x0d, (World.cell?_alloc_some _ _ _ (by rw [x1d]; rfl)).trans x1d⟩ (fun hHeld => ?_) AllReadyH.nil)
  simp only [Act.put, List.setIfInBounds_toArray, List.set_cons_zero, List.set_cons_succ]
  refine wpAnyH_ready (rs := [8]) (by kernel_rfl) (by simp) (readySkip (i := 8) rfl (by kernel_rfl) none (by kernel_rfl) (w' := w2.drew.alloc (.cells #[.int .i64 hin, .slice pa ports.length pc, .slice (some ⟨hb, ho, none⟩) 8 hc, .slice none 0 0] 86)) (by go_simp) ⟨(World.cell?_alloc_some _ _ _ (by rw [x0d]; rfl)).trans x0d, (World.cell?_alloc_some _ _ _ (by rw [x1d]; rfl)).trans x1d⟩ (fun hHeld => ?_) AllReadyH.nil)
  simp only [Act.put, List.setIfInBounds_toArray, List.set_cons_zero, List.set_cons_succ]
  refine wpAnyH_done (by kernel_rfl) ?_ _
  obtain ⟨Wp, hWp⟩ : ∃ Wp, Wp = w2.drew.alloc (.cells #[.int .i64 hin, .slice pa ports.length pc, .slice (some ⟨hb, ho, none⟩) 8 hc, .slice none 0 0] 86) := ⟨_, rfl⟩
  rw [← hWp]
  have Bp : Below w2.heap.size w2 Wp := by subst hWp; exact Rw.next (Below.drew (Below.refl _ w2)) (below_alloc1 _ _)
  have kP : Wp.heap[w2.heap.size]? = some (.cells #[.int .i64 hin, .slice pa ports.length pc, .slice (some ⟨hb, ho, none⟩) 8 hc, .slice none 0 0] 86 (0, 0)) := by subst hWp; exact at_new rfl
  clear hWp x0 x1 x0d x1d
  have stp : St Wp w2.heap.size w2.heap.size hin pa pb po pc ports hb ho hc h (.slice none 0 0) [] := by
    refine ⟨kP, hp.below Bp, (rd_lt hp).imp id (fun q => .inl q), hh.below Bp, h8, (rd_lt hh).imp id (fun q => .inl q), Sn.nil _ _, Nat.le_refl _⟩
  have hrz : W0.heap.size < w2.heap.size := Nat.lt_of_lt_of_le zr hb2.size
  clear k0 z0 hh hp kP
  go_wp2_with fail
  go_loopw [39] (fun i wr => ∃ k : Nat, k ≤ n ∧ i = .int .i64 k ∧ ∃ hb' ho' hc' v' Q', St wr w2.heap.size w2.heap.size hin pa pb po pc ports hb' ho' hc' (nowK l h k) v' Q' ∧ said Q' = sentK hin ports l h k ∧ Below w2.heap.size w2 wr) (fun i _ => n - (intOf i).toNat)
  case atStart => exact ⟨0, Nat.zero_le _, rfl, _, _, _, _, _, stp, rfl, Bp⟩
  case round =>
    obtain ⟨k, hk, rfl, hb', ho', hc', v', Q', st', hsaid, bel⟩ := hrel
    have HS : Hid (said Q' = sentK hin ports l h k) := hsaid
    clear hsaid stp
    by_cases hlt : k < n
    · have hkz : (k : Int) < (n : Int) := by omega
      have c0 := (hrow.of_block (bel.block _ hrz)).cell hlt
      have er : row l n k = actV (l.getD k z3) := by simp only [row, if_pos hlt]
      rw [er, ZW.out] at c0
      have hxB := HPRE.out k hlt
      have hhB := head_nowK (l := l) h2 k (fun i hi => HPRE.out i (by omega))
      have HE : Hid (nowK l h (k + 1) = next (nowK l h k) (l.getD k z3)) := rfl
      have HT : Hid (sentK hin ports l h (k + 1) = sentK hin ports l h k ++ goes hin ports (nowK l h (k + 1)) (l.getD k z3)) := rfl
      have hq' : Q'.length + ports.length ≤ 4096 := by
        have e1 := congrArg List.length HS.out
        rw [said_len] at e1
        have e2 := sentK_len hin ports l h hp8 k
        omega
      generalize l.getD k z3 = x at *
      clear er
      go_wp2_with (go_at_call 66; refine (do_any x hxB st' hhB hq').mono ?_; rintro e w4 ⟨rfl, hb4, ho4, hc4, v4, Q4, st4, hs4, bl4⟩)
      go_roundw
      case rel => exact ⟨k + 1, by omega, by go_num, _, _, _, _, _, (by rw [HE.out]; exact st4), by rw [hs4, HS.out, HT.out, HE.out], bel.trans bl4⟩
      case measure => simp [intOf]; omega
    · have he : k = n := by omega
      subst he
      have c3 := four3 st'.blk
      go_wp2
      have hN := HN.out
      refine bodyPost_ret (v := .tuple #[v', .bool true]) (by simp [results, Try.results28, go_sem]) rfl ⟨w2.heap.size, v', Q', rfl, st'.sn, ?_, ?_, ?_⟩
      · exact B0.size
      · rw [HS.out, hN]
      · exact B0.trans (bel.mono B0.size)

end Go.Proofs.Ytkakdldhinimoaa.Yl
