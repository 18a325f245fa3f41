/-
  Two relations are drawn.
-/
import Derived.Test.YtfiebakgphcnbaaDa4
namespace Go.Proofs.Ytfiebakgphcnbaa.Dr
set_option maxRecDepth 8000
set_option linter.unusedSimpArgs false
set_option linter.unusedVariables false
open Go Go.RowKit
open Num Rw Pl
open Rl (flatV Rm OG rm0)
open Vl (V2 z2)

theorem OX.drew {w : World} {B T : Nat} {v : Value} {Q : List Rm} (h : OX w B T v Q) : OX w.drew B T v Q := h.below ((Below.refl _ _).drew)
theorem cur_drew {w : World} {g : Nat} {a : Option Addr} {b off cap : Nat} {l : List Int} (h : Cur w g a b off cap l) : Cur w.drew g a b off cap l := ⟨h.blk, h.rd.below ((Below.refl _ _).drew), h.ne⟩
theorem only_drew {g : Nat} {w w1 : World} (h : Only g w w1) : Only g w w1.drew := only_trans h ⟨rfl, rfl, rfl, Nat.le_refl _, fun _ _ _ => rfl⟩
theorem own_ne31 {w : World} {B : Nat} {v : Value} {F : List Rm} {T : Nat} {cs : Array Value} (h : OG w B v F) (k : w.heap[T]? = some (.cells cs 31 (0, 0))) : v.ownBlock ≠ some T := by
  intro e
  rcases h.own.2 with ⟨rfl, _⟩ | ⟨g, cap, cur, rfl, hb, hg, _⟩
  · simp [Value.ownBlock] at e
  · simp [Value.ownBlock] at e
    subst e
    rw [hg] at k
    simp at k
theorem OX.grown {w w' : World} {B T : Nat} {v v' : Value} {Q F : List Rm} {cs : Array Value} (h : OX w B T v Q) (hog : OG w' B v' F) (hlow : ∀ r ∈ F, r ∈ Q ∨ r.l.length = 0 ∨ w.heap.size ≤ r.b) (k : w'.heap[T]? = some (.cells cs 31 (0, 0))) (hT : T < w.heap.size) (hB : B ≤ w.heap.size) : OX w' B T v' F :=
  ⟨hog, fun r hr h0 => by
    rcases hlow r hr with q | q | q
    · exact h.low r q h0
    · exact absurd q h0
    · omega, own_ne31 hog k⟩
theorem OR.asX {w : World} {B B' T : Nat} {v : Value} {Q : List Rm} (h : OR w B v Q) (hB : B' ≤ B) (hT : T < B) : OX w B' T v Q :=
  ⟨h.og.mono hB, fun r hr h0 => by have := h.low r hr h0; omega, fun e => by have := (h.og.lt e).1; omega⟩
def ResPr (w : World) (g : Nat) (a : Option Addr) (b off cap : Nat) (c : List Int) (e : Ending) (w' : World) : Prop :=
  ∃ xr xa xn xc P yr ya yn yc Q, e = .returned (.tuple #[.agg #[.int .i64 xr, .slice xa xn xc], .agg #[.int .i64 yr, .slice ya yn yc]]) ∧ OR w' w.heap.size (.slice xa xn xc) P ∧ P.length ≤ 1010 ∧ OR w' w.heap.size (.slice ya yn yc) Q ∧ Q.length ≤ 1010 ∧ Cur w' g a b off cap c ∧ Only g w w'

set_option maxHeartbeats 8000000 in
theorem pair_any (g : Nat) (a : Option Addr) (b off cap : Nat) (c : List Int) (w : World) (h : Cur w g a b off cap c) :
    Calls Try.prog 44 #[.pointer (some ⟨g, 0, none⟩)] w (ResPr w g a b off cap c) := by
  obtain ⟨hg, hbl⟩ := cur_in h
  obtain ⟨W1, hW1⟩ : ∃ W1, W1 = (w.alloc (.cells #[.int .i64 0, .slice none 0 0] 31)).alloc (.cells #[.int .i64 0, .slice none 0 0] 31) := ⟨_, rfl⟩
  have kR : W1.heap[w.heap.size]? = some (.cells #[.int .i64 0, .slice none 0 0] 31 (0, 0)) := by subst hW1; rw [at_old (by simp), at_new rfl]
  have kS : W1.heap[w.heap.size + 1]? = some (.cells #[.int .i64 0, .slice none 0 0] 31 (0, 0)) := by subst hW1; exact at_new (by simp)
  have hC : Cur W1 g a b off cap c := by subst hW1; exact cur_alloc (cur_alloc h _) _
  have hO : Only g w W1 := by subst hW1; exact only_alloc (only_alloc (Only.refl _ _) _) _
  obtain ⟨B, hB⟩ : ∃ B, B = W1.heap.size := ⟨_, rfl⟩
  have zB : w.heap.size + 1 < B := by rw [hB]; exact blk_lt kS
  clear h
  go_enter Try.func44, Try.ntmps44
  go_upto_region 3 with (go_at_call 79; rw [← hW1]; clear hW1; refine (anyrel_any _ _ _ _ _ _ _ hC).mono ?_; rintro e w2 ⟨ar, ua, un, uc, Q, rfl, or0, hQ, hC1, hO1⟩; have s2 := hO1.size; rw [← hB] at or0 s2; replace kR := only_at hO1 kR (by omega); replace kS := only_at hO1 kS (by omega); replace hO := only_trans hO hO1; replace hC := hC1; clear hC1 hO1 hB; obtain ⟨fa, fg, fc, hv, hrd, hfb⟩ := or0.og.form (by omega); simp only [Value.slice.injEq] at hv; obtain ⟨rfl, rfl, rfl⟩ := hv; clear hrd hfb)
  obtain ⟨ab, hab⟩ : ∃ ab, ab = w2.heap.size := ⟨_, rfl⟩
  obtain ⟨W3, hW3⟩ : ∃ W3, W3 = w2.alloc (.cells #[.int .i64 ar, .slice ua Q.length uc] 31) := ⟨_, rfl⟩
  have kA : W3.heap[ab]? = some (.cells #[.int .i64 ar, .slice ua Q.length uc] 31 (0, 0)) := by subst hW3; exact at_new hab
  have hb : Below w2.heap.size w2 W3 := by subst hW3; exact below_alloc1 _ _
  have hBa : B ≤ ab := by omega
  replace kR := (hb.block _ (blk_lt kR)).trans kR
  replace kS := (hb.block _ (blk_lt kS)).trans kS
  replace hC := cur_below hC hb
  replace hO := only_below hO hb
  replace or0 := or0.below hb
  clear hb s2
  rw [← hW3, ← hab]
  clear hW3 hab
  have hcut0 : ∀ q : Bool, Hid (q = q) := fun _ => rfl
  go_cut [17] from 12 (fun s wx => ∃ q : Bool, s = .bool q ∧ (q = false → 0 ≤ ar ∧ ar ≤ 6) ∧ wx = W3)
  case first =>
    by_cases h1 : ar < 0
    · go_wp2
      go_meet
      case rel => exact ⟨true, by simp, by simp, rfl⟩
    · by_cases h2 : ar > 6
      · go_wp2
        go_meet
        case rel => exact ⟨true, by simp [h2], by simp, rfl⟩
      · go_wp2
        go_meet
        case rel => exact ⟨false, by simp [h2], fun _ => by omega, rfl⟩
  case rest =>
    obtain ⟨q, rfl, hq, rfl⟩ := hcut
    go_upto_if 17 with fail
    go_cut [5] from 12 (fun s wx => ∃ n0 : Int, s = .int .i64 n0 ∧ 0 ≤ n0 ∧ n0 ≤ 6 ∧ wx = wc)
    case first =>
      cases q
      · obtain ⟨q0, q1⟩ := hq rfl
        go_wp2
        go_meet
        case rel => exact ⟨ar, rfl, q0, q1, rfl⟩
      · go_wp2
        go_meet
        case rel => exact ⟨1, rfl, by omega, by omega, rfl⟩
    case rest =>
      obtain ⟨n0, rfl, n00, n06, rfl⟩ := hcut
      clear hq hcut0
      go_upto_region 6 with (go_at_call 80; refine (rel_any n0 n00 (by omega) _ _ _ _ _ _ _ hC).mono ?_; rintro e w4 ⟨br, va, vn, vc, P0, rfl, or2, hP, hC1, hO1⟩; have s4 := hO1.size; have sA := blk_lt kA; replace kR := only_at hO1 kR (by omega); replace kS := only_at hO1 kS (by omega); replace kA := only_at hO1 kA (by omega); replace or0 := or0.only hO1 (by omega); replace hO := only_trans hO hO1; replace hC := hC1; clear hC1 hO1; obtain ⟨B2, hB2⟩ : ∃ B2, B2 = wc.heap.size := ⟨_, rfl⟩; rw [← hB2] at or2 s4 sA; obtain ⟨bb, hbb⟩ : ∃ bb, bb = w4.heap.size := ⟨_, rfl⟩; obtain ⟨W5, hW5⟩ : ∃ W5, W5 = w4.alloc (.cells #[.int .i64 br, .slice va vn vc] 31) := ⟨_, rfl⟩; have kB : W5.heap[bb]? = some (.cells #[.int .i64 br, .slice va vn vc] 31 (0, 0)) := (by subst hW5; exact at_new hbb); have hb : Below w4.heap.size w4 W5 := (by subst hW5; exact below_alloc1 _ _); have oxA : OX W5 B bb (.slice ua Q.length uc) Q := (by rw [hbb]; exact or0.toX hb); have oxB : OX W5 B2 bb (.slice va vn vc) P0 := (by rw [hbb]; exact or2.toX hb); have hBb : B2 ≤ bb := (by omega); replace kR := (hb.block _ (blk_lt kR)).trans kR; replace kS := (hb.block _ (blk_lt kS)).trans kS; replace kA := (hb.block _ (blk_lt kA)).trans kA; replace hC := cur_below hC hb; replace hO := only_below hO hb; clear hb s4 or0 or2 hB2)
      rw [← hW5, ← hbb]
      clear hW5 hbb
      have hvn : vn = P0.length := by
        obtain ⟨fa, fg, fc, hv, hrd, hfb⟩ := oxB.og.form (by omega)
        simp only [Value.slice.injEq] at hv
        exact hv.2.1
      obtain ⟨o0, o1⟩ := two kA
      obtain ⟨p0, p1⟩ := two kB
      go_wp2
      clear o0 o1 p0 p1
      go_loopw [24] (fun u wr => ∃ (i : Nat) (v : Value) (P : List Rm), i ≤ Q.length ∧ u = .int .i64 i ∧ Only g w wr ∧ Cur wr g a b off cap c ∧ wr.heap[w.heap.size]? = some (.cells #[.int .i64 0, .slice none 0 0] 31 (0, 0)) ∧ wr.heap[w.heap.size + 1]? = some (.cells #[.int .i64 0, .slice none 0 0] 31 (0, 0)) ∧ wr.heap[ab]? = some (.cells #[.int .i64 ar, .slice ua Q.length uc] 31 (0, 0)) ∧ wr.heap[bb]? = some (.cells #[.int .i64 br, v] 31 (0, 0)) ∧ OX wr B bb (.slice ua Q.length uc) Q ∧ OX wr B2 bb v P ∧ P.length ≤ 6 + i) (fun u _ => Q.length - (intOf u).toNat)
      case atStart => exact ⟨0, _, P0, by omega, rfl, hO, hC, kR, kS, kA, kB, oxA, oxB, by omega⟩
      case round =>
        clear hO hC kR kS kA kB oxA oxB hvn
        obtain ⟨i, v, P, hi, rfl, hO, hC, kR, kS, kA, kB, oxA, oxB, hPl⟩ := hrel
        obtain ⟨va0, vg0, vc0, hv, hrd0, hfb0⟩ := oxB.og.form (by omega)
        subst hv
        clear hrd0 hfb0
        by_cases hlt : i < Q.length
        · have hlt' : (i : Int) < (Q.length : Int) := by omega
          obtain ⟨fg, hfa, hfB, hft, hcs0, hcl⟩ := oxA.head (by omega) (by omega)
          subst hfa
          have cI := hcl i hlt
          have hmem : Q.getD i rm0 ∈ Q := Rl.getD_mem hlt
          have ok : (Q.getD i rm0).Ok wr := oxA.og.each _ hmem
          clear hcl hcs0
          generalize Q.getD i rm0 = x at cI ok hmem
          obtain ⟨xa, xb, xo, xc, xl⟩ := x
          simp only [Rm.val] at cI
          replace ok : Vl.Rd wr xa xb xo xl := ok
          have hfne : fg ≠ ab := fun e => by
            subst e
            simp only [World.cell?, kA] at cI
            match i with
            | 0 => simp at cI
            | 1 => exact own_ne31 oxA.og kA rfl
            | n + 2 => simp at cI
          by_cases hc1 : (P.length : Int) < 20
          · by_cases hc2 : (xl.length : Int) = n0
            · have oxA0 := oxA
              rcases hr : Vl.rowB xl with _ | _
              · obtain ⟨o0, o1⟩ := two kA
                obtain ⟨p0, p1⟩ := two kB
                go_wp2_with (go_at_call 53; go_loud (refine (Vl.rowS_any xa xb xo xc xl _ ok).mono ?_; rintro e w6 ⟨rfl, hb⟩; replace kR := (hb.block _ (blk_lt kR)).trans kR; replace kS := (hb.block _ (blk_lt kS)).trans kS; replace kA := (hb.block _ (blk_lt kA)).trans kA; replace kB := (hb.block _ (blk_lt kB)).trans kB; replace hC := cur_below hC hb; replace hO := only_below hO hb; replace oxA := oxA.below hb; replace oxB := oxB.below hb; replace cI := (hb.cell (by exact (oxA0.og.lt (k := fg) rfl).2)).trans cI; replace ok := ok.below hb; clear hb oxA0; obtain ⟨o0, o1⟩ := two kA; obtain ⟨p0, p1⟩ := two kB))
                go_roundw
                case rel => exact ⟨i + 1, _, P, by omega, by simp, hO, hC, kR, kS, kA, kB, oxA, oxB, by omega⟩
                case measure => simp [intOf]; omega
              · obtain ⟨o0, o1⟩ := two kA
                obtain ⟨p0, p1⟩ := two kB
                go_upto_if 54 with (first
                  | (go_at_call 53; go_loud (refine (Vl.rowS_any xa xb xo xc xl _ ok).mono ?_; rintro e w6 ⟨rfl, hb⟩; replace kR := (hb.block _ (blk_lt kR)).trans kR; replace kS := (hb.block _ (blk_lt kS)).trans kS; replace kA := (hb.block _ (blk_lt kA)).trans kA; replace kB := (hb.block _ (blk_lt kB)).trans kB; replace hC := cur_below hC hb; replace hO := only_below hO hb; replace oxA := oxA.below hb; replace oxB := oxB.below hb; replace cI := (hb.cell (by exact (oxA0.og.lt (k := fg) rfl).2)).trans cI; replace ok := ok.below hb; clear hb oxA0; obtain ⟨o0, o1⟩ := two kA; obtain ⟨p0, p1⟩ := two kB))
                  | (go_at_call 81; go_loud (refine (below_any _ _ _ _ _ _ 3 _ hC (by omega) (by omega)).mono ?_; rintro e w8 ⟨z, rfl, z0, z1, hC1, hO1⟩; replace cI := (World.cell?_of_block (a := ⟨fg, i, none⟩) (hO1.block fg (oxA.og.lt (k := fg) rfl).2 (by simp; omega))).trans cI; replace ok : Vl.Rd w8 xa xb xo xl := Rl.vrd_keep ok (by by_cases h00 : xl.length = 0; exact .inl h00; exact .inr (hO1.block _ (Rl.vrd_lt ok h00) (by have := (oxA.low _ hmem h00).1; simp only at this; simp; omega))); replace kA := only_at hO1 kA (by omega); replace kR := only_at hO1 kR (by omega); replace kS := only_at hO1 kS (by omega); replace kB := only_at hO1 kB (by omega); replace oxA := oxA.only hO1 (by omega); replace oxB := oxB.only hO1 (by omega); replace hO := only_trans hO hO1; replace hC := hC1; clear hC1; clear hO1; obtain ⟨o0, o1⟩ := two kA; obtain ⟨p0, p1⟩ := two kB)))
                clear o0 o1 p0 p1
                by_cases hz : z = 0
                · subst hz
                  obtain ⟨o0, o1⟩ := two kA
                  obtain ⟨p0, p1⟩ := two kB
                  go_wp2
                  have hfgW : fg < w8.drew.heap.size := (oxA.og.lt (k := fg) rfl).2
                  refine wp_region_held_drew (S := fun w' => w'.cell? ⟨ab, 1, none⟩ = some (.slice (some ⟨fg, 0, none⟩) Q.length uc) ∧ w'.cell? ⟨fg, i, none⟩ = some (.slice xa xl.length xc)) (by kernel_rfl) ⟨(two kA).2, cI⟩ (fun hHeld => ?_)
                  refine Hn.take (i := 0) (d := some 55) (v := .pointer (some ⟨bb, 1, none⟩)) rfl (by kernel_rfl) (by kernel_rfl) (by kernel_rfl) (by kernel_rfl) (fun _ _ _ h => h) (Or.inl ⟨by rfl, by intro w hSw; go_simp⟩) hHeld ?_
                  simp only [Act.put, List.setIfInBounds_toArray, List.set_cons_zero, List.set_cons_succ]
                  refine Hn.take (i := 2) (d := some 57) (v := .pointer (some ⟨ab, 1, none⟩)) rfl (by kernel_rfl) (by kernel_rfl) (by kernel_rfl) (by kernel_rfl) (fun _ _ _ h => h) (Or.inl ⟨by rfl, by intro w hSw; go_simp⟩) hHeld ?_
                  simp only [Act.put, List.setIfInBounds_toArray, List.set_cons_zero, List.set_cons_succ]
                  refine Hn.take (i := 3) (d := some 58) (v := .slice (some ⟨fg, 0, none⟩) Q.length uc) rfl (by kernel_rfl) (by kernel_rfl) (by kernel_rfl) (by kernel_rfl) (fun _ _ _ h => h) (Or.inl ⟨by rfl, by intro w hSw; obtain ⟨hSa, hSr⟩ := hSw; go_simp⟩) hHeld ?_
                  simp only [Act.put, List.setIfInBounds_toArray, List.set_cons_zero, List.set_cons_succ]
                  refine Hn.take (i := 4) (d := some 59) (v := .int .i64 i) rfl (by kernel_rfl) (by kernel_rfl) (by kernel_rfl) (by kernel_rfl) (fun _ _ _ h => h) (Or.inl ⟨by rfl, by intro w hSw; go_simp⟩) hHeld ?_
                  simp only [Act.put, List.setIfInBounds_toArray, List.set_cons_zero, List.set_cons_succ]
                  refine Hn.take (i := 5) (d := some 60) (v := .pointer (some ⟨fg, i, none⟩)) rfl (by kernel_rfl) (by kernel_rfl) (by kernel_rfl) (by kernel_rfl) (fun _ _ _ h => h) (Or.inl ⟨by rfl, by intro w hSw; go_simp⟩) hHeld ?_
                  simp only [Act.put, List.setIfInBounds_toArray, List.set_cons_zero, List.set_cons_succ]
                  refine Hn.take (i := 6) (d := some 61) (v := .agg #[.slice xa xl.length xc]) rfl (by kernel_rfl) (by kernel_rfl) (by kernel_rfl) (by kernel_rfl) (fun _ _ _ h => h) (Or.inl ⟨by rfl, by intro w hSw; obtain ⟨hSa, hSr⟩ := hSw; go_simp⟩) hHeld ?_
                  simp only [Act.put, List.setIfInBounds_toArray, List.set_cons_zero, List.set_cons_succ]
                  replace oxA : OX w8.drew B bb (.slice (some ⟨fg, 0, none⟩) Q.length uc) Q := oxA.drew
                  replace oxB : OX w8.drew B2 bb (.slice va0 P.length vc0) P := oxB.drew
                  replace kA : w8.drew.heap[ab]? = some (.cells #[.int .i64 ar, .slice (some ⟨fg, 0, none⟩) Q.length uc] 31 (0, 0)) := kA
                  replace kB : w8.drew.heap[bb]? = some (.cells #[.int .i64 br, .slice va0 P.length vc0] 31 (0, 0)) := kB
                  replace kR : w8.drew.heap[w.heap.size]? = some (.cells #[.int .i64 0, .slice none 0 0] 31 (0, 0)) := kR
                  replace kS : w8.drew.heap[w.heap.size + 1]? = some (.cells #[.int .i64 0, .slice none 0 0] 31 (0, 0)) := kS
                  replace hC : Cur w8.drew g a b off cap c := cur_drew hC
                  replace hO : Only g w w8.drew := only_drew hO
                  replace ok := Vl.Rd.below ok ((Below.refl w8.heap.size w8).drew)
                  replace cI : w8.drew.cell? ⟨fg, i, none⟩ = some (.slice xa xl.length xc) := cI
                  clear o0 o1 p0 p1
                  generalize w8.drew = W at *
                  refine wpAnyH_ready (rs := [1]) (by kernel_rfl) (by simp) (Hn.readyRun (i := 1) rfl (by kernel_rfl) (some 56) (by kernel_rfl) (v := .slice va0 P.length vc0) (w' := W) (by obtain ⟨p0, p1⟩ := two kB; go_simp) ⟨(two kA).2, cI⟩ (fun hHeld => ?_) AllReadyH.nil)
                  simp only [Act.put, List.setIfInBounds_toArray, List.set_cons_zero, List.set_cons_succ]
                  obtain ⟨va1, vg, vc1, hv, hrd, hfb⟩ := oxB.og.form (by omega)
                  simp only [Value.slice.injEq, true_and] at hv
                  obtain ⟨rfl, rfl⟩ := hv
                  clear hfb
                  refine wpAnyH_ready (rs := [7]) (by kernel_rfl) (by simp) (Hn.call2 (i := 7) rfl (by rfl) 39 (.tmp 56) (.tmp 61) 29 56 (by kernel_rfl) 62 (by kernel_rfl) (.slice va0 P.length vc0) (.agg #[.slice xa xl.length xc]) (by kernel_rfl) (by kernel_rfl) (fun _ => rfl) (Rl.puto_any B2 va0 xa vg 0 vc0 xb xo xc P xl W hrd ok (by omega) oxB.og (by have := blk_lt kB; omega)) ?_ AllReadyH.nil)
                  rintro e2 Z ⟨ta, tn, tc, F, rfl, ogF, hFl, hlow, hb⟩
                  have hbbW := blk_lt kB
                  replace kA := (hb.block _ (blk_lt kA)).trans kA
                  replace kB := (hb.block _ (blk_lt kB)).trans kB
                  replace kR := (hb.block _ (blk_lt kR)).trans kR
                  replace kS := (hb.block _ (blk_lt kS)).trans kS
                  replace oxA := oxA.below hb
                  have oxF := oxB.grown ogF hlow kB hbbW (by omega)
                  replace hC := cur_below hC hb
                  replace hO := only_below hO hb
                  have cZ : Z.cell? ⟨fg, i, none⟩ = some (.slice xa xl.length xc) := (hb.cell (by exact hfgW)).trans cI
                  clear hb
                  obtain ⟨p0, p1⟩ := two kB
                  have fB := Vl.free kB
                  refine ⟨_, rfl, ⟨(two kA).2, cZ⟩, fun hHeld => ?_⟩
                  simp only [Act.put, List.setIfInBounds_toArray, List.set_cons_zero, List.set_cons_succ]
                  refine Hn.take (i := 8) (d := some 63) (v := .pointer (some ⟨bb, 1, none⟩)) rfl (by kernel_rfl) (by kernel_rfl) (by kernel_rfl) (by kernel_rfl) (fun _ _ _ h => h) (Or.inl ⟨by rfl, by intro w hSw; go_simp⟩) hHeld ?_
                  simp only [Act.put, List.setIfInBounds_toArray, List.set_cons_zero, List.set_cons_succ]
                  have kA' := (Below.heap_setCell Z ⟨bb, 1, none⟩ (.slice ta tn tc) ab (by simp only; omega)).trans kA
                  have cZ' : (Z.setCell ⟨bb, 1, none⟩ (.slice ta tn tc)).cell? ⟨fg, i, none⟩ = some (.slice xa xl.length xc) := (World.cell?_of_block (a := ⟨fg, i, none⟩) (Below.heap_setCell Z ⟨bb, 1, none⟩ (.slice ta tn tc) fg (by simp only; omega))).trans cZ
                  refine wpAnyH_ready (rs := [9]) (by kernel_rfl) (by simp) (Hn.readySkip (i := 9) rfl (by kernel_rfl) none (by kernel_rfl) (w' := Z.setCell ⟨bb, 1, none⟩ (.slice ta tn tc)) (by go_simp) ⟨(two kA').2, cZ'⟩ (fun hHeld => ?_) AllReadyH.nil)
                  simp only [Act.put, List.setIfInBounds_toArray, List.set_cons_zero, List.set_cons_succ]
                  refine wpAnyH_done (by kernel_rfl) ?_ _
                  have kB' : (Z.setCell ⟨bb, 1, none⟩ (.slice ta tn tc)).heap[bb]? = some (.cells #[.int .i64 br, .slice ta tn tc] 31 (0, 0)) := Rl.two_set1 kB
                  have kR' := (Below.heap_setCell Z ⟨bb, 1, none⟩ (.slice ta tn tc) (w.heap.size) (by simp only; omega)).trans kR
                  have kS' := (Below.heap_setCell Z ⟨bb, 1, none⟩ (.slice ta tn tc) (w.heap.size + 1) (by simp only; omega)).trans kS
                  have oxA' := oxA.set (x := ⟨bb, 1, none⟩) (u := .slice ta tn tc) (Or.inr rfl)
                  have oxF' := oxF.set (x := ⟨bb, 1, none⟩) (u := .slice ta tn tc) (Or.inr rfl)
                  have hC' := cur_set (x := ⟨bb, 1, none⟩) (u := .slice ta tn tc) hC (by simp only; omega) (hbl.imp id fun q => by simp only; omega)
                  have hO' := only_set (x := ⟨bb, 1, none⟩) (u := .slice ta tn tc) hO (by simp only; omega)
                  go_wp2
                  go_roundw
                  case rel => exact ⟨i + 1, _, F, by omega, by simp, hO', hC', kR', kS', kA', kB', oxA', oxF', by omega⟩
                  case measure => simp [intOf]; omega
                · obtain ⟨o0, o1⟩ := two kA
                  obtain ⟨p0, p1⟩ := two kB
                  go_wp2
                  go_roundw
                  case rel => exact ⟨i + 1, _, P, by omega, by simp, hO, hC, kR, kS, kA, kB, oxA, oxB, by omega⟩
                  case measure => simp [intOf]; omega
            · obtain ⟨o0, o1⟩ := two kA
              obtain ⟨p0, p1⟩ := two kB
              go_wp2
              go_roundw
              case rel => exact ⟨i + 1, _, P, by omega, by simp, hO, hC, kR, kS, kA, kB, oxA, oxB, by omega⟩
              case measure => simp [intOf]; omega
          · obtain ⟨o0, o1⟩ := two kA
            obtain ⟨p0, p1⟩ := two kB
            go_wp2
            go_roundw
            case rel => exact ⟨i + 1, _, P, by omega, by simp, hO, hC, kR, kS, kA, kB, oxA, oxB, by omega⟩
            case measure => simp [intOf]; omega
        · have hnl : ¬ (i : Int) < (Q.length : Int) := by omega
          obtain ⟨o0, o1⟩ := two kA
          obtain ⟨p0, p1⟩ := two kB
          go_upto_if 67 with (go_at_call 81; refine (below_any _ _ _ _ _ _ 8 _ hC (by omega) (by omega)).mono ?_; rintro e w8 ⟨x, rfl, x0, x1, hC1, hO1⟩; have s8 := hO1.size; replace kA := only_at hO1 kA (by omega); replace kR := only_at hO1 kR (by omega); replace kS := only_at hO1 kS (by omega); replace kB := only_at hO1 kB (by omega); replace oxA := oxA.only hO1 (by omega); replace oxB := oxB.only hO1 (by omega); replace hO := only_trans hO hO1; replace hC := hC1; clear hC1; clear hO1; obtain ⟨o0, o1⟩ := two kA; obtain ⟨p0, p1⟩ := two kB)
          clear o0 o1 p0 p1
          by_cases hx : x = 0
          · subst hx
            obtain ⟨o0, o1⟩ := two kA
            obtain ⟨p0, p1⟩ := two kB
            go_wp2_with (go_at_call 79; refine (anyrel_any _ _ _ _ _ _ _ hC).mono ?_; rintro e w9 ⟨br2, va2, vn2, vc2, P2, rfl, or9, hP2, hC1, hO1⟩; have s9 := hO1.size; have sb := blk_lt kB; replace kA := only_at hO1 kA (by omega); replace kR := only_at hO1 kR (by omega); replace kS := only_at hO1 kS (by omega); replace kB := only_at hO1 kB (by omega); replace oxA := oxA.only hO1 (by omega); replace oxB := oxB.only hO1 (by omega); replace hO := only_trans hO hO1; replace hC := hC1; clear hC1; clear hO1 oxB; have fB := Vl.free kB; obtain ⟨o0, o1⟩ := two kA; obtain ⟨p0, p1⟩ := two kB)
            clear o0 o1 p0 p1 fB
            obtain ⟨We, hWe⟩ : ∃ We, We = (w9.setCell ⟨bb, 0, none⟩ (.int .i64 br2)).setCell ⟨bb, 1, none⟩ (.slice va2 vn2 vc2) := ⟨_, rfl⟩
            rw [← hWe]
            replace kB : We.heap[bb]? = some (.cells #[.int .i64 br2, .slice va2 vn2 vc2] 31 (0, 0)) := by rw [hWe]; exact Rl.two_set1 (Rl.two_set0 kB)
            replace kA : We.heap[ab]? = some (.cells #[.int .i64 ar, .slice ua Q.length uc] 31 (0, 0)) := by rw [hWe]; exact (Below.heap_setCell _ _ _ _ (by simp only; omega)).trans ((Below.heap_setCell _ _ _ _ (by simp only; omega)).trans kA)
            replace kR : We.heap[w.heap.size]? = some (.cells #[.int .i64 0, .slice none 0 0] 31 (0, 0)) := by rw [hWe]; exact (Below.heap_setCell _ _ _ _ (by simp only; omega)).trans ((Below.heap_setCell _ _ _ _ (by simp only; omega)).trans kR)
            replace kS : We.heap[w.heap.size + 1]? = some (.cells #[.int .i64 0, .slice none 0 0] 31 (0, 0)) := by rw [hWe]; exact (Below.heap_setCell _ _ _ _ (by simp only; omega)).trans ((Below.heap_setCell _ _ _ _ (by simp only; omega)).trans kS)
            replace oxA : OX We B bb (.slice ua Q.length uc) Q := by rw [hWe]; exact (oxA.set (Or.inr rfl)).set (Or.inr rfl)
            have oxB : OX We B2 bb (.slice va2 vn2 vc2) P2 := by rw [hWe]; exact ((or9.asX (T := bb) (by omega) (by omega)).set (Or.inr rfl)).set (Or.inr rfl)
            replace hC : Cur We g a b off cap c := by rw [hWe]; exact cur_set (cur_set hC (by simp only; omega) (hbl.imp id fun q => by simp only; omega)) (by simp only; omega) (hbl.imp id fun q => by simp only; omega)
            replace hO : Only g w We := by rw [hWe]; exact only_set (only_set hO (by simp only; omega)) (by simp only; omega)
            clear hWe or9
            obtain ⟨o0, o1⟩ := two kA
            obtain ⟨p0, p1⟩ := two kB
            go_upto_if 72 with (go_at_call 81; refine (below_any _ _ _ _ _ _ 2 _ hC (by omega) (by omega)).mono ?_; rintro e w8 ⟨y, rfl, y0, y1, hC1, hO1⟩; have s8 := hO1.size; replace kA := only_at hO1 kA (by omega); replace kR := only_at hO1 kR (by omega); replace kS := only_at hO1 kS (by omega); replace kB := only_at hO1 kB (by omega); replace oxA := oxA.only hO1 (by omega); replace oxB := oxB.only hO1 (by omega); replace hO := only_trans hO hO1; replace hC := hC1; clear hC1; clear hO1; obtain ⟨o0, o1⟩ := two kA; obtain ⟨p0, p1⟩ := two kB)
            clear o0 o1 p0 p1
            by_cases hy : y = 0
            · subst hy
              obtain ⟨o0, o1⟩ := two kA
              obtain ⟨p0, p1⟩ := two kB
              go_wp2
              clear o0 o1 p0 p1
              obtain ⟨o0, o1⟩ := two kA
              obtain ⟨p0, p1⟩ := two kB
              obtain ⟨r0, r1⟩ := two kR
              obtain ⟨s0, s1⟩ := two kS
              have fR := Vl.free kR
              have fS := Vl.free kS
              go_region
              go_wp2
              all_goals
                refine bodyPost_ret (v := .tuple #[.agg #[.int .i64 br2, .slice va2 vn2 vc2], .agg #[.int .i64 ar, .slice ua Q.length uc]]) (by simp [results, Try.results44, go_sem, r0, r1, s0, s1]) rfl ⟨br2, va2, vn2, vc2, P2, ar, ua, Q.length, uc, Q, rfl, ?_, by omega, ?_, by omega, ?_, ?_⟩
                · refine OR.mono (B := B2) (OX.toR (T := bb) ?_) (by omega); repeat (first | with_reducible exact oxB | refine OX.drew ?_ | refine OX.set ?_ (by first | (simp only; omega) | exact Or.inr rfl))
                · refine OR.mono (B := B) (OX.toR (T := bb) ?_) (by omega); repeat (first | with_reducible exact oxA | refine OX.drew ?_ | refine OX.set ?_ (by first | (simp only; omega) | exact Or.inr rfl))
                · repeat (first | with_reducible exact hC | refine cur_drew ?_ | refine cur_set ?_ (by simp only; omega) (hbl.imp id fun q => by simp only; omega))
                · repeat (first | with_reducible exact hO | refine only_drew ?_ | refine only_set ?_ (by simp only; omega))
            · obtain ⟨o0, o1⟩ := two kA
              obtain ⟨p0, p1⟩ := two kB
              go_wp2
              clear o0 o1 p0 p1
              obtain ⟨o0, o1⟩ := two kA
              obtain ⟨p0, p1⟩ := two kB
              obtain ⟨r0, r1⟩ := two kR
              obtain ⟨s0, s1⟩ := two kS
              have fR := Vl.free kR
              have fS := Vl.free kS
              go_region
              go_wp2
              all_goals
                refine bodyPost_ret (v := .tuple #[.agg #[.int .i64 ar, .slice ua Q.length uc], .agg #[.int .i64 br2, .slice va2 vn2 vc2]]) (by simp [results, Try.results44, go_sem, r0, r1, s0, s1]) rfl ⟨ar, ua, Q.length, uc, Q, br2, va2, vn2, vc2, P2, rfl, ?_, by omega, ?_, by omega, ?_, ?_⟩
                · refine OR.mono (B := B) (OX.toR (T := bb) ?_) (by omega); repeat (first | with_reducible exact oxA | refine OX.drew ?_ | refine OX.set ?_ (by first | (simp only; omega) | exact Or.inr rfl))
                · refine OR.mono (B := B2) (OX.toR (T := bb) ?_) (by omega); repeat (first | with_reducible exact oxB | refine OX.drew ?_ | refine OX.set ?_ (by first | (simp only; omega) | exact Or.inr rfl))
                · repeat (first | with_reducible exact hC | refine cur_drew ?_ | refine cur_set ?_ (by simp only; omega) (hbl.imp id fun q => by simp only; omega))
                · repeat (first | with_reducible exact hO | refine only_drew ?_ | refine only_set ?_ (by simp only; omega))
          · obtain ⟨o0, o1⟩ := two kA
            obtain ⟨p0, p1⟩ := two kB
            go_upto_if 72 with (go_at_call 81; refine (below_any _ _ _ _ _ _ 2 _ hC (by omega) (by omega)).mono ?_; rintro e w8 ⟨y, rfl, y0, y1, hC1, hO1⟩; have s8 := hO1.size; replace kA := only_at hO1 kA (by omega); replace kR := only_at hO1 kR (by omega); replace kS := only_at hO1 kS (by omega); replace kB := only_at hO1 kB (by omega); replace oxA := oxA.only hO1 (by omega); replace oxB := oxB.only hO1 (by omega); replace hO := only_trans hO hO1; replace hC := hC1; clear hC1; clear hO1; obtain ⟨o0, o1⟩ := two kA; obtain ⟨p0, p1⟩ := two kB)
            clear o0 o1 p0 p1
            by_cases hy : y = 0
            · subst hy
              obtain ⟨o0, o1⟩ := two kA
              obtain ⟨p0, p1⟩ := two kB
              go_wp2
              clear o0 o1 p0 p1
              obtain ⟨o0, o1⟩ := two kA
              obtain ⟨p0, p1⟩ := two kB
              obtain ⟨r0, r1⟩ := two kR
              obtain ⟨s0, s1⟩ := two kS
              have fR := Vl.free kR
              have fS := Vl.free kS
              go_region
              go_wp2
              all_goals
                refine bodyPost_ret (v := .tuple #[.agg #[.int .i64 br, .slice va0 P.length vc0], .agg #[.int .i64 ar, .slice ua Q.length uc]]) (by simp [results, Try.results44, go_sem, r0, r1, s0, s1]) rfl ⟨br, va0, P.length, vc0, P, ar, ua, Q.length, uc, Q, rfl, ?_, by omega, ?_, by omega, ?_, ?_⟩
                · refine OR.mono (B := B2) (OX.toR (T := bb) ?_) (by omega); repeat (first | with_reducible exact oxB | refine OX.drew ?_ | refine OX.set ?_ (by first | (simp only; omega) | exact Or.inr rfl))
                · refine OR.mono (B := B) (OX.toR (T := bb) ?_) (by omega); repeat (first | with_reducible exact oxA | refine OX.drew ?_ | refine OX.set ?_ (by first | (simp only; omega) | exact Or.inr rfl))
                · repeat (first | with_reducible exact hC | refine cur_drew ?_ | refine cur_set ?_ (by simp only; omega) (hbl.imp id fun q => by simp only; omega))
                · repeat (first | with_reducible exact hO | refine only_drew ?_ | refine only_set ?_ (by simp only; omega))
            · obtain ⟨o0, o1⟩ := two kA
              obtain ⟨p0, p1⟩ := two kB
              go_wp2
              clear o0 o1 p0 p1
              obtain ⟨o0, o1⟩ := two kA
              obtain ⟨p0, p1⟩ := two kB
              obtain ⟨r0, r1⟩ := two kR
              obtain ⟨s0, s1⟩ := two kS
              have fR := Vl.free kR
              have fS := Vl.free kS
              go_region
              go_wp2
              all_goals
                refine bodyPost_ret (v := .tuple #[.agg #[.int .i64 ar, .slice ua Q.length uc], .agg #[.int .i64 br, .slice va0 P.length vc0]]) (by simp [results, Try.results44, go_sem, r0, r1, s0, s1]) rfl ⟨ar, ua, Q.length, uc, Q, br, va0, P.length, vc0, P, rfl, ?_, by omega, ?_, by omega, ?_, ?_⟩
                · refine OR.mono (B := B) (OX.toR (T := bb) ?_) (by omega); repeat (first | with_reducible exact oxA | refine OX.drew ?_ | refine OX.set ?_ (by first | (simp only; omega) | exact Or.inr rfl))
                · refine OR.mono (B := B2) (OX.toR (T := bb) ?_) (by omega); repeat (first | with_reducible exact oxB | refine OX.drew ?_ | refine OX.set ?_ (by first | (simp only; omega) | exact Or.inr rfl))
                · repeat (first | with_reducible exact hC | refine cur_drew ?_ | refine cur_set ?_ (by simp only; omega) (hbl.imp id fun q => by simp only; omega))
                · repeat (first | with_reducible exact hO | refine only_drew ?_ | refine only_set ?_ (by simp only; omega))

theorem below_only {n g : Nat} {w w2 w3 : World} (hb : Below n w w2) (ho : Only g w2 w3) (hg : n ≤ g) (hn : n ≤ w2.heap.size) : Below n w w3 :=
  ⟨ho.os.trans hb.os, ho.tape.trans hb.tape, ho.output.trans hb.output, Nat.le_trans hb.size ho.size, fun k hk => (ho.block k (Nat.lt_of_lt_of_le hk hn) (by simp; omega)).trans (hb.block k hk)⟩

set_option maxHeartbeats 8000000 in
theorem drawunion_any (a : Option Addr) (b off cap : Nat) (c : List Int) (w : World) (h : Rw.Rd w a b off c) :
    Calls Try.prog 20 #[.slice a c.length cap] w fun e w' => ∃ xr xa xn xc P yr ya yn yc Q, e = .returned (.tuple #[.agg #[.int .i64 xr, .slice xa xn xc], .agg #[.int .i64 yr, .slice ya yn yc]]) ∧ OR w' w.heap.size (.slice xa xn xc) P ∧ P.length ≤ 1010 ∧ OR w' w.heap.size (.slice ya yn yc) Q ∧ Q.length ≤ 1010 ∧ Below w.heap.size w w' := by
  obtain ⟨W1, hW1⟩ : ∃ W1, W1 = (w.alloc (.cells #[.int .i64 0, .slice none 0 0] 31)).alloc (.cells #[.int .i64 0, .slice none 0 0] 31) := ⟨_, rfl⟩
  have kR : W1.heap[w.heap.size]? = some (.cells #[.int .i64 0, .slice none 0 0] 31 (0, 0)) := by subst hW1; rw [at_old (by simp), at_new rfl]
  have kS : W1.heap[w.heap.size + 1]? = some (.cells #[.int .i64 0, .slice none 0 0] 31 (0, 0)) := by subst hW1; exact at_new (by simp)
  have B1 : Below w.heap.size w W1 := by subst hW1; exact below_alloc2 _ _ _
  replace h := h.below B1
  have z1 : w.heap.size + 1 < W1.heap.size := blk_lt kS
  go_enter Try.func20, Try.ntmps20
  go_wp2_with (first
    | (go_at_call 43; rw [← hW1]; clear hW1; refine (new_any _ _ _ _ _ _ h).mono ?_; rintro e w2 ⟨rfl, hC, hb⟩; replace kR := (hb.block _ (blk_lt kR)).trans kR; replace kS := (hb.block _ (blk_lt kS)).trans kS; replace B1 := Rw.next B1 hb; clear h hb)
    | (go_at_call 44; refine (pair_any _ _ _ _ _ _ _ hC).mono ?_; rintro e w3 ⟨ar, va, vn, vc, Q, br, ua, un, uc, P, rfl, orr, hQ, orp, hP, hC1, hO1⟩; have sA := blk_lt kS; have sB := (cur_in hC).1; obtain ⟨B, hB⟩ : ∃ B, B = w2.heap.size := ⟨_, rfl⟩; rw [← hB] at orr orp sA sB; replace kR := only_at hO1 kR (by omega); replace kS := only_at hO1 kS (by omega); replace B1 := below_only B1 hO1 (by omega) (by omega); have zB : B ≤ w3.heap.size := (by rw [hB]; exact hO1.size); clear hC hC1 hO1 hB))
  obtain ⟨ab, hab⟩ : ∃ ab, ab = w3.heap.size := ⟨_, rfl⟩
  obtain ⟨W5, hW5⟩ : ∃ W5, W5 = (w3.alloc (.cells #[.int .i64 ar, .slice va vn vc] 31)).alloc (.cells #[.int .i64 br, .slice ua un uc] 31) := ⟨_, rfl⟩
  have kA : W5.heap[ab]? = some (.cells #[.int .i64 ar, .slice va vn vc] 31 (0, 0)) := by subst hW5; rw [at_old (by simp [hab]), at_new hab]
  have kB : W5.heap[ab + 1]? = some (.cells #[.int .i64 br, .slice ua un uc] 31 (0, 0)) := by subst hW5; exact at_new (by simp [hab])
  have hb : Below w3.heap.size w3 W5 := by subst hW5; exact below_alloc2 _ _ _
  have hBa : B ≤ ab := by omega
  replace kR := (hb.block _ (blk_lt kR)).trans kR
  replace kS := (hb.block _ (blk_lt kS)).trans kS
  replace B1 := Rw.next B1 hb
  replace orr := orr.below hb
  replace orp := orp.below hb
  clear hb
  rw [← hW5, ← hab]
  clear hW5 hab
  obtain ⟨o0, o1⟩ := two kA
  obtain ⟨t0, t1⟩ := two kB
  obtain ⟨r0, r1⟩ := two kR
  obtain ⟨s0, s1⟩ := two kS
  have fR := Vl.free kR
  have fS := Vl.free kS
  go_region
  go_wp2
  all_goals
    refine bodyPost_ret (v := .tuple #[.agg #[.int .i64 ar, .slice va vn vc], .agg #[.int .i64 br, .slice ua un uc]]) (by simp [results, Try.results20, go_sem, r0, r1, s0, s1]) rfl ⟨ar, va, vn, vc, Q, br, ua, un, uc, P, rfl, ?_, hQ, ?_, hP, ?_⟩
    · refine OR.mono (B := B) ?_ (by omega); refine OR.below (w := _) ?_ ((Below.refl _ _).drew); repeat (first | with_reducible exact orr | refine OR.set ?_ (by simp only; omega))
    · refine OR.mono (B := B) ?_ (by omega); refine OR.below (w := _) ?_ ((Below.refl _ _).drew); repeat (first | with_reducible exact orp | refine OR.set ?_ (by simp only; omega))
    · refine Below.drew ?_; repeat (first | with_reducible exact B1 | refine Vl.bset ?_ (by simp only; omega))

end Go.Proofs.Ytfiebakgphcnbaa.Dr
