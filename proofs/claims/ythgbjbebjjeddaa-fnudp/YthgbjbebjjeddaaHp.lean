/-
  The parts of a datagram's bytes: an append within a region that draws, slices that are made, a copy with its room, the two ends written.
-/
import Derived.Test.YthgbjbebjjeddaaIk
import Derived.Test.YthgbjbebjjeddaaIpl
import Derived.Test.YthgbjbebjjeddaaPr
import Derived.Deep.RegionHeld3
namespace Go.Proofs.Ythgbjbebjjeddaa.Hp
open Go Go.RowKit
open Num Rw Mk Un Put Pl App Pf Pb Ipl
set_option maxRecDepth 4000

/-- An append to a slice of the call's own, at a step of a region that draws its order. -/
theorem step_app {ops : Array Oper} {o : Oper} {a : Act} {w : World} {K : Act → World → Prop} {Q : Exit → Act → World → Prop} {E : Prop} (hgd : o.guard = none) (s x : Operand)
    (ho : o.op = .call { callee := .builtin .append, args := #[s, x], argTypes := #[22, 22] }) (base : Nat) (v : Value) (l m : List Int) (hs : a.eval s = v) (hown : HasI w base v l)
    (A : Option Addr) (b off c : Nat) (hx : a.eval x = .slice A m.length c) (hr : Rd w A b off m) (hb : l.length + m.length ≤ 8388608) (hbase : base ≤ w.heap.size)
    (h : ∀ v' w', HasI w' base v' (l ++ m) → w.grownBy w' v.ownBlock → K (a.put o.dst v') w') : if Region.wanted o (yielded ops a.tmps) = true then Oper.wp Try.prog o a w K Q else E := by
  have hw : Region.wanted o (yielded ops a.tmps) = true := by simp [Region.wanted, hgd]
  obtain ⟨i0, hi, hz0, hz1, hz2⟩ := info_parts info5
  rcases A with _ | ad
  · rw [if_pos hw]
    obtain rfl := rd_nil hr
    have hg0 : w.grownBy w v.ownBlock := ⟨rfl, rfl, rfl, Nat.le_refl _, fun _ _ _ => rfl⟩
    have h2 := h v w (by simpa using hown) hg0
    rcases hown.1.2 with ⟨rfl, _⟩ | ⟨g, cap, cur, rfl, _, _, hn, _, _, _⟩
    · exact absurd rfl hown.2
    · unfold Oper.wp execOp
      have hrun := run_none w o.type g l.length cap c hn
      simp only [List.length_nil] at hx
      simp only [ho, resolve, invoke, builtin, Sem.run_bind, Sem.run_pure, Result.andThen_ok, List.map_toArray, List.map_cons, List.map_nil, hs, hx, hrun]
      exact h2
  · refine Step.step_append_own hgd s x 22 ho base 5 i0 (.int .u8 0) 1 1 Try.underlying22 hi hz0 hz1 hz2 rfl (by decide) v l.length (l.map (Value.int .u8)) hs hown.1 ad m.length c (m.map (Value.int .u8)) hx (by simp) (news_of hr) (by intro u hu; simp at hu; obtain ⟨q, _, rfl⟩ := hu; rfl) (by unfold maxLen; omega) (by omega) hbase ?_
    intro v' w' h1 h2 h3
    refine h v' w' ⟨by simpa using h1, fun e => ?_⟩ h2
    exact hown.2 (h3.1 e).1

/-- A slice of bytes that is made: it is the call's own. -/
theorem own_made (w : World) (xs : List Int) (n : Nat) (cs : Array Value) (hn : xs.length = n) (hc : cs.toList = xs.map (Value.int .u8)) (hs : n ≤ 4194304) : HasI (w.alloc (.cells cs 5)) w.heap.size (.slice (some ⟨w.heap.size, 0, none⟩) n n) xs := by
  subst hn
  have hsz : cs.size = xs.length := by have := congrArg List.length hc; simpa using this
  refine own_list (by unfold maxLen; omega) (Nat.le_refl _) ⟨cs, heap_alloc_new _ _, hsz, fun i hi => ?_⟩
  rw [← Array.getElem?_toList, hc, List.getElem?_map, List.getElem?_eq_getElem hi]
  simp [List.getD, hi]
theorem own_head (w : World) : HasI (w.alloc (.cells #[.int .u8 69, .int .u8 0] 5)) w.heap.size (.slice (some ⟨w.heap.size, 0, none⟩) 2 2) [69, 0] := own_made w [69, 0] 2 _ rfl rfl (by decide)

/-- What the call's own slice looks like, with its room. -/
theorem room {w : World} {B : Nat} {v : Value} {l : List Int} (h : HasI w B v l) (hs : l.length ≤ 4194304) (hy : Byt l) :
    ∃ g cap, v = .slice (some ⟨g, 0, none⟩) l.length cap ∧ B ≤ g ∧ Wt w (some ⟨g, 0, none⟩) g l ∧ l.length ≤ cap := by
  obtain ⟨g, cap, rfl, hg, hw⟩ := hasI_form h hs hy
  rcases h.1.2 with ⟨e, _⟩ | ⟨g', cap', cur, e, _, _, hn, _⟩
  · simp at e
  · injection e with e1 e2 e3
    subst e3
    exact ⟨g, cap, rfl, hg, hw, hn⟩

set_option maxHeartbeats 1000000 in
/-- A copy of a slice that is not nil, with its room. -/
theorem clone_room (ad : Addr) (b off cap n : Nat) (l : List Int) (w : World) (h : Rd w (some ad) b off l) (hn : l.length = n) :
    Calls Try.prog 54 #[.slice (some ad) n cap] w fun e w' => ∃ g cap', e = .returned (.slice (some ⟨g, 0, none⟩) n cap') ∧ Wt w' (some ⟨g, 0, none⟩) g l ∧ n ≤ cap' ∧ w.heap.size ≤ g ∧ Below w.heap.size w w' := by
  subst hn
  have hs := h.size
  have hy := h.byt
  have B0 := below_alloc1 w (.cells #[] 5)
  have O0 := own_empty w
  have h0 := h.below B0
  have q0 := eql_some ad l.length cap w
  go_enter Try.func54, Try.ntmps54
  go_wp2_with (at_builtin; refine wpList_app rfl (.tmp 5) (.tmp 6) rfl w.heap.size _ [] l rfl O0 (some ad) b off cap rfl h0 (by simp; omega) (by simp) ?_; intro v' w' hown hgrow)
  go_ret
  have hB := below_own O0 B0 (Nat.le_refl _) hgrow
  obtain ⟨g, cap', rfl, hg, hwt, hr⟩ := room hown (by simpa using hs) (by simpa using hy)
  simp only [List.nil_append] at hwt hr
  exact ⟨g, cap', rfl, hwt, hr, hg, hB⟩

theorem size_of {s z : Int} (h : numOkB s z = true) : 1 ≤ z ∧ z ≤ 6 := by
  obtain ⟨N, k, rfl, rfl, h1, h6, _⟩ := numOk_nat h
  omega

set_option maxHeartbeats 2000000 in
theorem ends_own (s d z : Int) (v : Value) (base : Nat) (l : List Int) (w : World) (h : HasI w base v l) (hy : Byt l) (hs : numOkB s z = true) (hd : numOkB d z = true) (h6 : l.length ≤ 50000) :
    Calls Try.prog 79 #[.agg #[.int .i64 s, .int .i64 d, .int .i64 z], v] w fun e w' => ∃ v' L, e = .returned v' ∧ Hid (L = add (add l s z) d z) ∧ L.length = l.length + z.toNat + z.toNat ∧ Byt L ∧ HasI w' w.heap.size v' L ∧ Below w.heap.size w w' := by
  have hz := size_of hs
  obtain ⟨W0, hW0⟩ : ∃ W0, W0 = w.alloc (.cells #[.int .i64 s, .int .i64 d, .int .i64 z] 73) := ⟨_, rfl⟩
  have B : Below w.heap.size w W0 := by subst hW0; exact below_alloc1 _ _
  have k : W0.heap[w.heap.size]? = some (.cells #[.int .i64 s, .int .i64 d, .int .i64 z] 73 (0, 0)) := by subst hW0; exact at_new rfl
  have zz : w.heap.size < W0.heap.size := by subst hW0; simp
  replace h := hasI_below (hasI_below h (below_alloc1 w (.cells #[.int .i64 s, .int .i64 d, .int .i64 z] 73))) ((Below.refl _ _).drew)
  rw [← hW0] at h
  obtain ⟨c0, c1, c2⟩ := Ul.three k
  go_enter Try.func79, Try.ntmps79
  go_wp2
  rw [← hW0]
  clear hW0
  go_region_held3 (fun w' => w'.cell? ⟨w.heap.size, 0, none⟩ = some (.int .i64 s) ∧ w'.cell? ⟨w.heap.size, 1, none⟩ = some (.int .i64 d) ∧ w'.cell? ⟨w.heap.size, 2, none⟩ = some (.int .i64 z)) (go_keep)
    (first
    | (go_at_call 47; refine (iput _ _ _ _ _ _ hv1 by1 hd (by omega) (by omega)).mono ?_; rintro e w2 ⟨v2, L2, rfl, hL2, ln2, by2, hv2, hb⟩; clear c0 c1 c2; replace B := next B hb; replace k := (hb.block _ zz).trans k; replace zz := Nat.lt_of_lt_of_le zz hb.size; have sz1 := hb.size; clear hb; obtain ⟨c0, c1, c2⟩ := Ul.three k)
    | (go_at_call 47; refine (iput _ _ _ _ _ _ h hy hs (by omega) (by omega)).mono ?_; rintro e w1 ⟨v1, L1, rfl, hL1, ln1, by1, hv1, hb0⟩; have hb := next ((Below.refl _ _).drew) hb0; clear c0 c1 c2; replace B := next B hb; replace k := (hb.block _ zz).trans k; replace zz := Nat.lt_of_lt_of_le zz hb.size; have sz0 := hb0.size; have zz1 := zz; clear hb hb0; obtain ⟨c0, c1, c2⟩ := Ul.three k))
  go_wp2
  go_ret
  exact ⟨v2, L2, rfl, (by unfold Hid; rw [hL2.out, hL1.out]), by omega, by2, hasI_mono hv2 (by omega), B⟩

set_option maxHeartbeats 2000000 in
theorem ends_nil (s d z : Int) (w : World) (hs : numOkB s z = true) (hd : numOkB d z = true) :
    Calls Try.prog 79 #[.agg #[.int .i64 s, .int .i64 d, .int .i64 z], .slice none 0 0] w fun e w' => ∃ v' L, e = .returned v' ∧ Hid (L = add (add [] s z) d z) ∧ L.length = z.toNat + z.toNat ∧ Byt L ∧ HasI w' w.heap.size v' L ∧ Below w.heap.size w w' := by
  have hz := size_of hs
  obtain ⟨W0, hW0⟩ : ∃ W0, W0 = w.alloc (.cells #[.int .i64 s, .int .i64 d, .int .i64 z] 73) := ⟨_, rfl⟩
  have B : Below w.heap.size w W0 := by subst hW0; exact below_alloc1 _ _
  have k : W0.heap[w.heap.size]? = some (.cells #[.int .i64 s, .int .i64 d, .int .i64 z] 73 (0, 0)) := by subst hW0; exact at_new rfl
  have zz : w.heap.size < W0.heap.size := by subst hW0; simp
  obtain ⟨c0, c1, c2⟩ := Ul.three k
  go_enter Try.func79, Try.ntmps79
  go_wp2
  rw [← hW0]
  clear hW0
  go_region_held3 (fun w' => w'.cell? ⟨w.heap.size, 0, none⟩ = some (.int .i64 s) ∧ w'.cell? ⟨w.heap.size, 1, none⟩ = some (.int .i64 d) ∧ w'.cell? ⟨w.heap.size, 2, none⟩ = some (.int .i64 z)) (go_keep)
    (first
    | (go_at_call 47; refine (iput _ _ _ _ _ _ hv1 by1 hd (by omega) (by omega)).mono ?_; rintro e w2 ⟨v2, L2, rfl, hL2, ln2, by2, hv2, hb⟩; clear c0 c1 c2; replace B := next B hb; replace k := (hb.block _ zz).trans k; replace zz := Nat.lt_of_lt_of_le zz hb.size; have sz1 := hb.size; clear hb; obtain ⟨c0, c1, c2⟩ := Ul.three k)
    | (go_at_call 47; refine (iput0 _ _ _ hs).mono ?_; rintro e w1 ⟨v1, L1, rfl, hL1, ln1, by1, hv1, hb0⟩; simp only [List.length_nil, Nat.zero_add] at ln1; have hb := next ((Below.refl _ _).drew) hb0; clear c0 c1 c2; replace B := next B hb; replace k := (hb.block _ zz).trans k; replace zz := Nat.lt_of_lt_of_le zz hb.size; have sz0 := hb0.size; have zz1 := zz; clear hb hb0; obtain ⟨c0, c1, c2⟩ := Ul.three k))
  go_wp2
  go_ret
  exact ⟨v2, L2, rfl, (by unfold Hid; rw [hL2.out, hL1.out]), by omega, by2, hasI_mono hv2 (by omega), B⟩

end Go.Proofs.Ythgbjbebjjeddaa.Hp
