/-
  DeclOf, by the specification and by the program.
-/
import Derived.Test.YtljlgjgfmgilaaaNd
import Derived.Test.YtljlgjgfmgilaaaPrh
import Derived.Test.YtljlgjgfmgilaaaShelfs
namespace Go.Proofs.Ytljlgjgfmgilaaa.Nq
set_option maxRecDepth 8000
set_option linter.unusedSimpArgs false
set_option linter.unusedVariables false
open Go Go.ChangeShapes Go.WideShapes Go.RowKit
open Num Pl Pm

def ansD (p : PgL) (s : ByteArray) : Dc × Bool := if progB p = true ∧ (dOf p.1 s).k ≠ 0 then (dOf p.1 s, true) else (dc0, false)

theorem clone_any (s : ByteArray) (w : World) (hs : s.size ≤ 16777216) : Calls Try.prog 17 #[.string s] w fun e w' => e = .returned (.string s) ∧ Below w.heap.size w w' := by
  go_enter Try.func17, Try.ntmps17
  go_wp2_with (go_at_call 30; refine (Try.stringslite_Clone s w (by omega)).mono ?_; rintro e w1 ⟨rfl, hb⟩)
  go_ret
  exact ⟨rfl, hb⟩

set_option maxHeartbeats 4000000 in
theorem declOfS_any (x : Pg) (s : ByteArray) (w : World) (hx : x.Ok 0 w) : Calls Try.prog 5 #[.agg #[.slice x.D.a x.D.Q.length x.D.c, .slice x.R.a x.R.Q.length x.R.c], .string s] w fun e w' => (∃ r, r = ansD x.l s ∧ e = .returned (.tuple #[.agg #[.int .i64 r.1.k, .string r.1.s, .int .i64 r.1.ar], .bool r.2])) ∧ Below w.heap.size w w' := by
  have HA : Hid (ansD x.l s = if progB x.l = true ∧ (dOf x.D.Q s).k ≠ 0 then (dOf x.D.Q s, true) else (dc0, false)) := rfl
  obtain ⟨W1, hW1⟩ : ∃ W1, W1 = (w.alloc (.cells #[.slice x.D.a x.D.Q.length x.D.c, .slice x.R.a x.R.Q.length x.R.c] 34)).alloc (.cells #[.int .i64 0, .string ⟨#[]⟩, .int .i64 0] 28) := ⟨_, rfl⟩
  have B : Below w.heap.size w W1 := by rw [hW1]; exact Rw.next (below_alloc1 _ _) (below_alloc1 _ _)
  have kz : W1.heap[w.heap.size + 1]? = some (.cells #[.int .i64 0, .string ⟨#[]⟩, .int .i64 0] 28 (0, 0)) := by rw [hW1]; exact at_new (by simp)
  have k0 : W1.heap[w.heap.size]? = some (.cells #[.slice x.D.a x.D.Q.length x.D.c, .slice x.R.a x.R.Q.length x.R.c] 34 (0, 0)) := by rw [hW1, at_old (by simp), at_new rfl]
  obtain ⟨p0, p1⟩ := Pl.two k0
  have h1 : x.Ok 0 W1 := hx.below B
  have hD := declS_any x s W1 h1.1
  have hP : ∀ W, x.Ok 0 W → Calls Try.prog 13 #[.agg #[.slice x.D.a x.D.Q.length x.D.c, .slice x.R.a x.R.Q.length x.R.c]] W fun e w' => e = .returned (.bool (progB x.l)) ∧ Below W.heap.size W w' := fun W h => progS_any x W h
  generalize progB x.l = P at hP HA
  generalize dOf x.D.Q s = V at hD HA
  generalize ansD x.l s = A at HA ⊢
  have HO : Hid (x.Ok 0 W1) := h1
  clear h1 hx
  cases P with
  | false =>
    have HV : Hid True := trivial
    go_enter Try.func5, Try.ntmps5
    go_wp2_with (first
      | (go_at_call 12; rw [← hW1]; clear hW1; refine hD.mono ?_; rintro e w1 ⟨⟨d, hd, rfl⟩, hb⟩; replace k0 := (hb.block _ (Pl.blk_lt k0)).trans k0; replace kz := (hb.block _ (Pl.blk_lt kz)).trans kz; obtain ⟨W2, hW2⟩ : ∃ W2, W2 = w1.alloc (.cells #[.int .i64 d.k, .string d.s, .int .i64 d.ar] 28) := ⟨_, rfl⟩; have b2 : Below w1.heap.size w1 W2 := (by subst hW2; exact below_alloc1 _ _); have kd : W2.heap[w1.heap.size]? = some (.cells #[.int .i64 d.k, .string d.s, .int .i64 d.ar] 28 (0, 0)) := (by subst hW2; exact at_new rfl); have HO2 : Hid (x.Ok 0 W2) := HO.out.below (Rw.next hb b2); have HDV : Hid (d = V) := hd; replace B := Rw.next B (Rw.next hb b2); have l0 := Pl.blk_lt k0; replace kz := (b2.block _ (Pl.blk_lt kz)).trans kz; clear p0 p1 hb hd b2; obtain ⟨p0, p1⟩ := Pl.two k0)
      | (go_at_call 13; rw [← hW2]; clear hW2 p0 p1 k0 l0; refine (hP _ HO2.out).mono ?_; rintro e w3 ⟨rfl, hb⟩; replace kz := (hb.block _ (Pl.blk_lt kz)).trans kz; replace kd := (hb.block _ (Pl.blk_lt kd)).trans kd; replace B := Rw.next B hb; obtain ⟨q0, q1, q2⟩ := three kd; obtain ⟨z0, z1, z2⟩ := three kz; have f0 := free kz 0; have f1 := free kz 1; have f2 := free kz 2))
    have e3 := set_blk (cs' := #[.int .i64 0, .string ⟨#[]⟩, .int .i64 0]) (set_blk (cs' := #[.int .i64 0, .string ⟨#[]⟩, .int .i64 0]) (set_blk (cs' := #[.int .i64 0, .string ⟨#[]⟩, .int .i64 0]) kz 0 (.int .i64 0) rfl) 1 (.string ⟨#[]⟩) rfl) 2 (.int .i64 0) rfl
    obtain ⟨r0, r1, r2⟩ := three e3
    refine bodyPost_ret (v := .tuple #[.agg #[.int .i64 0, .string ⟨#[]⟩, .int .i64 0], .bool false]) (by simp [results, Try.results5, go_sem, r0, r1, r2]) rfl ?_
    exact ⟨⟨(dc0, false), (by rw [HA.out]; simp [HV.out]), rfl⟩, ((B.setCell (by simp) _).setCell (by simp) _).setCell (by simp) _⟩
  | true =>
    by_cases hv : V.k = 0
    · have HV : Hid (V.k = 0) := hv
      go_enter Try.func5, Try.ntmps5
      go_wp2_with (first
        | (go_at_call 12; rw [← hW1]; clear hW1; refine hD.mono ?_; rintro e w1 ⟨⟨d, hd, rfl⟩, hb⟩; replace k0 := (hb.block _ (Pl.blk_lt k0)).trans k0; replace kz := (hb.block _ (Pl.blk_lt kz)).trans kz; obtain ⟨W2, hW2⟩ : ∃ W2, W2 = w1.alloc (.cells #[.int .i64 0, .string d.s, .int .i64 d.ar] 28) := ⟨_, rfl⟩; have b2 : Below w1.heap.size w1 W2 := (by subst hW2; exact below_alloc1 _ _); have kd : W2.heap[w1.heap.size]? = some (.cells #[.int .i64 0, .string d.s, .int .i64 d.ar] 28 (0, 0)) := (by subst hW2; exact at_new rfl); have HO2 : Hid (x.Ok 0 W2) := HO.out.below (Rw.next hb b2); have HDV : Hid (d = V) := hd; replace hv := hd ▸ hv; replace B := Rw.next B (Rw.next hb b2); have l0 := Pl.blk_lt k0; replace kz := (b2.block _ (Pl.blk_lt kz)).trans kz; clear p0 p1 hb hd b2; obtain ⟨p0, p1⟩ := Pl.two k0)
        | (go_at_call 13; rw [← hW2]; clear hW2 p0 p1 k0 l0; refine (hP _ HO2.out).mono ?_; rintro e w3 ⟨rfl, hb⟩; replace kz := (hb.block _ (Pl.blk_lt kz)).trans kz; replace kd := (hb.block _ (Pl.blk_lt kd)).trans kd; replace B := Rw.next B hb; obtain ⟨q0, q1, q2⟩ := three kd; obtain ⟨z0, z1, z2⟩ := three kz; have f0 := free kz 0; have f1 := free kz 1; have f2 := free kz 2))
      have e3 := set_blk (cs' := #[.int .i64 0, .string ⟨#[]⟩, .int .i64 0]) (set_blk (cs' := #[.int .i64 0, .string ⟨#[]⟩, .int .i64 0]) (set_blk (cs' := #[.int .i64 0, .string ⟨#[]⟩, .int .i64 0]) kz 0 (.int .i64 0) rfl) 1 (.string ⟨#[]⟩) rfl) 2 (.int .i64 0) rfl
      obtain ⟨r0, r1, r2⟩ := three e3
      refine bodyPost_ret (v := .tuple #[.agg #[.int .i64 0, .string ⟨#[]⟩, .int .i64 0], .bool false]) (by simp [results, Try.results5, go_sem, r0, r1, r2]) rfl ?_
      exact ⟨⟨(dc0, false), (by rw [HA.out]; simp [HV.out]), rfl⟩, ((B.setCell (by simp) _).setCell (by simp) _).setCell (by simp) _⟩
    · have HV : Hid (¬ V.k = 0) := hv
      go_enter Try.func5, Try.ntmps5
      go_wp2_with (first
        | (go_at_call 12; rw [← hW1]; clear hW1; refine hD.mono ?_; rintro e w1 ⟨⟨d, hd, rfl⟩, hb⟩; replace k0 := (hb.block _ (Pl.blk_lt k0)).trans k0; replace kz := (hb.block _ (Pl.blk_lt kz)).trans kz; obtain ⟨W2, hW2⟩ : ∃ W2, W2 = w1.alloc (.cells #[.int .i64 d.k, .string d.s, .int .i64 d.ar] 28) := ⟨_, rfl⟩; have b2 : Below w1.heap.size w1 W2 := (by subst hW2; exact below_alloc1 _ _); have kd : W2.heap[w1.heap.size]? = some (.cells #[.int .i64 d.k, .string d.s, .int .i64 d.ar] 28 (0, 0)) := (by subst hW2; exact at_new rfl); have HO2 : Hid (x.Ok 0 W2) := HO.out.below (Rw.next hb b2); have HDV : Hid (d = V) := hd; replace hv := hd ▸ hv; replace B := Rw.next B (Rw.next hb b2); have l0 := Pl.blk_lt k0; replace kz := (b2.block _ (Pl.blk_lt kz)).trans kz; clear p0 p1 hb hd b2; obtain ⟨p0, p1⟩ := Pl.two k0)
        | (go_at_call 13; rw [← hW2]; clear hW2 p0 p1 k0 l0; refine (hP _ HO2.out).mono ?_; rintro e w3 ⟨rfl, hb⟩; replace kz := (hb.block _ (Pl.blk_lt kz)).trans kz; replace kd := (hb.block _ (Pl.blk_lt kd)).trans kd; replace B := Rw.next B hb; obtain ⟨q0, q1, q2⟩ := three kd; obtain ⟨z0, z1, z2⟩ := three kz; have f0 := free kz 0; have f1 := free kz 1; have f2 := free kz 2))
      have e3 := set_blk (cs' := #[.int .i64 d.k, .string d.s, .int .i64 d.ar]) (set_blk (cs' := #[.int .i64 d.k, .string d.s, .int .i64 0]) (set_blk (cs' := #[.int .i64 d.k, .string ⟨#[]⟩, .int .i64 0]) kz 0 (.int .i64 d.k) rfl) 1 (.string d.s) rfl) 2 (.int .i64 d.ar) rfl
      obtain ⟨r0, r1, r2⟩ := three e3
      refine bodyPost_ret (v := .tuple #[.agg #[.int .i64 d.k, .string d.s, .int .i64 d.ar], .bool true]) (by simp [results, Try.results5, go_sem, r0, r1, r2]) rfl ?_
      exact ⟨⟨(d, true), (by rw [HA.out, HDV.out]; simp [HV.out]), rfl⟩, ((B.setCell (by simp) _).setCell (by simp) _).setCell (by simp) _⟩

set_option maxHeartbeats 4000000 in
theorem declOfI_any (x : Pg) (s : ByteArray) (w : World) (hx : x.Ok 0 w) (hsz : s.size ≤ 16777216) : Calls Try.prog 7 #[.agg #[.slice x.D.a x.D.Q.length x.D.c, .slice x.R.a x.R.Q.length x.R.c], .string s] w fun e w' => (∃ r, r = ansD x.l s ∧ e = .returned (.tuple #[.agg #[.int .i64 r.1.k, .string r.1.s, .int .i64 r.1.ar], .bool r.2])) ∧ Below w.heap.size w w' := by
  have HA : Hid (ansD x.l s = if progB x.l = true ∧ (dOf x.D.Q s).k ≠ 0 then (dOf x.D.Q s, true) else (dc0, false)) := rfl
  obtain ⟨W1, hW1⟩ : ∃ W1, W1 = (w.alloc (.cells #[.slice x.D.a x.D.Q.length x.D.c, .slice x.R.a x.R.Q.length x.R.c] 34)).alloc (.cells #[.int .i64 0, .string ⟨#[]⟩, .int .i64 0] 28) := ⟨_, rfl⟩
  have B : Below w.heap.size w W1 := by rw [hW1]; exact Rw.next (below_alloc1 _ _) (below_alloc1 _ _)
  have kz : W1.heap[w.heap.size + 1]? = some (.cells #[.int .i64 0, .string ⟨#[]⟩, .int .i64 0] 28 (0, 0)) := by rw [hW1]; exact at_new (by simp)
  have k0 : W1.heap[w.heap.size]? = some (.cells #[.slice x.D.a x.D.Q.length x.D.c, .slice x.R.a x.R.Q.length x.R.c] 34 (0, 0)) := by rw [hW1, at_old (by simp), at_new rfl]
  obtain ⟨p0, p1⟩ := Pl.two k0
  have h1 : x.Ok 0 W1 := hx.below B
  have hP : Calls Try.prog 16 #[.agg #[.slice x.D.a x.D.Q.length x.D.c, .slice x.R.a x.R.Q.length x.R.c]] W1 fun e w' => e = .returned (.bool (progB x.l)) ∧ Below W1.heap.size W1 w' := progI_any x W1 h1
  have HGD : Hid (progB x.l = true → x.D.Q.all declB = true) := fun h => prog_decl (p := x.l) h
  generalize progB x.l = P at hP HA HGD
  generalize ansD x.l s = A at HA ⊢
  cases P with
  | false =>
    clear h1 hx HGD
    go_enter Try.func7, Try.ntmps7
    go_wp2_with (go_at_call 16; rw [← hW1]; clear hW1 p0 p1 k0; refine hP.mono ?_; rintro e w3 ⟨rfl, hb⟩; replace kz := (hb.block _ (Pl.blk_lt kz)).trans kz; replace B := Rw.next B hb; obtain ⟨z0, z1, z2⟩ := three kz; have f0 := free kz 0; have f1 := free kz 1; have f2 := free kz 2)
    have e3 := set_blk (cs' := #[.int .i64 0, .string ⟨#[]⟩, .int .i64 0]) (set_blk (cs' := #[.int .i64 0, .string ⟨#[]⟩, .int .i64 0]) (set_blk (cs' := #[.int .i64 0, .string ⟨#[]⟩, .int .i64 0]) kz 0 (.int .i64 0) rfl) 1 (.string ⟨#[]⟩) rfl) 2 (.int .i64 0) rfl
    obtain ⟨r0, r1, r2⟩ := three e3
    refine bodyPost_ret (v := .tuple #[.agg #[.int .i64 0, .string ⟨#[]⟩, .int .i64 0], .bool false]) (by simp [results, Try.results7, go_sem, r0, r1, r2]) rfl ?_
    exact ⟨⟨(dc0, false), (by rw [HA.out]; simp), rfl⟩, ((B.setCell (by simp) _).setCell (by simp) _).setCell (by simp) _⟩
  | true =>
    obtain ⟨⟨da, db, dO, dc, dQ⟩, R⟩ := x
    obtain ⟨n, hn⟩ : ∃ n, n = dQ.length := ⟨_, rfl⟩
    have hd := h1.1
    simp only at hd HA hP k0 p0 p1 hW1 HGD ⊢
    have hm : n ≤ maxLen := by rw [hn]; exact hd.len
    unfold maxLen at hm
    have HB : Hid (∀ k, k < n → (∀ i, i < k → (dQ.getD i dc0).s ≠ s) → ∀ y, y = dQ.getD k dc0 → y.s = s → A = (y, true)) := fun k hk hb y hy h => by
      subst hy
      have hf := find_hit (by omega) h hb
      have g := find_good (HGD.out (by trivial)) hf
      rw [HA.out, dOf_some hf]
      simp only [true_and]
      rw [if_pos (by omega)]
    have HG : Hid ((∀ i, i < n → (dQ.getD i dc0).s ≠ s) → A = (dc0, false)) := fun h => by
      rw [HA.out, dOf_none (find_miss (fun i hi => h i (by omega)))]; simp [dc0]
    clear HA HGD hx
    rw [← hn] at k0 hP p0 hW1
    rw [← hn]
    have HN : Hid (n = dQ.length) := hn
    clear hn h1
    generalize R.Q.length = rl at hP k0 p0 p1 hW1 ⊢
    go_enter Try.func7, Try.ntmps7
    go_wp2_with (go_at_call 16; rw [← hW1]; clear hW1 p0 p1; refine hP.mono ?_; rintro e w3 ⟨rfl, hb⟩; replace kz := (hb.block _ (Pl.blk_lt kz)).trans kz; replace k0 := (hb.block _ (Pl.blk_lt k0)).trans k0; replace B := Rw.next B hb; replace hd := hd.below hb; obtain ⟨p0, p1⟩ := Pl.two k0)
    clear p0 p1 k0
    go_loopw [15] (fun i wr => ∃ k : Nat, k ≤ n ∧ i = .int .i64 k ∧ Below w3.heap.size w3 wr ∧ ∀ i, i < k → (dQ.getD i dc0).s ≠ s) (fun i _ => n - (intOf i).toNat)
    case atStart => exact ⟨0, Nat.zero_le _, rfl, Below.refl _ _, fun i hi => by omega⟩
    case round =>
      obtain ⟨k, hk, rfl, hbel, hpre⟩ := hrel
      have HP : Hid (∀ i, i < k → (dQ.getD i dc0).s ≠ s) := hpre
      clear hpre
      have kr := (hbel.block _ (Pl.blk_lt kz)).trans kz
      have lr := Pl.blk_lt kr
      have B2 := Rw.next B hbel
      clear kz B
      obtain ⟨z0, z1, z2⟩ := three kr
      have f0 := free kr 0
      have f1 := free kr 1
      have f2 := free kr 2
      by_cases hlt : k < n
      · have hh := hd.head (by have := HN.out; simp only; omega)
        have hkz : (k : Int) < (n : Int) := by omega
        obtain ⟨c0, c1, c2⟩ := cellsDc (hd.below hbel) (i := k) (by have := HN.out; simp only; omega)
        simp only at hh c0 c1 c2
        obtain rfl := hh
        have HY : Hid (∀ y, y = dQ.getD k dc0 → y.s = s → A = (y, true)) := fun y hy h => HB.out k hlt HP.out y hy h
        have HX : Hid (∀ y, y = dQ.getD k dc0 → y.s ≠ s → ∀ i, i < k + 1 → (dQ.getD i dc0).s ≠ s) := fun y hy h i hi => by
          by_cases e : i = k
          · subst e; rw [← hy]; exact h
          · exact HP.out i (by omega)
        clear hd HB HG HN HP
        obtain ⟨y, hy⟩ : ∃ y, y = dQ.getD k dc0 := ⟨_, rfl⟩
        rw [← hy] at c0 c1 c2
        have HY2 := HY.out y hy
        have HX2 := HX.out y hy
        clear HY HX hy
        have b2 := below_alloc1 wr (.cells #[.int .i64 y.k, .string y.s, .int .i64 y.ar] 28)
        by_cases he : y.s = s
        · have HYV : Hid (A = (y, true)) := HY2 he
          have e1 := eq_lists he
          clear HX2 HY2
          obtain ⟨W4, hW4⟩ : ∃ W4, W4 = wr.alloc (.cells #[.int .i64 y.k, .string y.s, .int .i64 y.ar] 28) := ⟨_, rfl⟩
          have k4 : W4.heap[wr.heap.size]? = some (.cells #[.int .i64 y.k, .string y.s, .int .i64 y.ar] 28 (0, 0)) := by subst hW4; exact at_new rfl
          rw [← hW4] at b2
          have B4 := Rw.next B2 b2
          replace kr := (b2.block _ lr).trans kr
          have hCl := clone_any y.s W4 (by rw [he]; exact hsz)
          clear he
          go_wp2_with (go_at_call 17; rw [← hW4]; clear hW4 z0 z1 z2 f0 f1 f2; refine hCl.mono ?_; rintro e w5 ⟨rfl, hb⟩; replace kr := (hb.block _ (Pl.blk_lt kr)).trans kr; replace k4 := (hb.block _ (Pl.blk_lt k4)).trans k4; replace B4 := Rw.next B4 hb; obtain ⟨q0, q1, q2⟩ := three k4; have g1 := free k4 1; obtain ⟨z0, z1, z2⟩ := three kr; have f0 := free kr 0; have f1 := free kr 1; have f2 := free kr 2)
          have kr2 : (w5.setCell ⟨wr.heap.size, 1, none⟩ (.string y.s)).heap[w.heap.size + 1]? = some (.cells #[.int .i64 0, .string ⟨#[]⟩, .int .i64 0] 28 (0, 0)) := (keep_set (by omega)).trans kr
          have e3 := set_blk (cs' := #[.int .i64 y.k, .string y.s, .int .i64 y.ar]) (set_blk (cs' := #[.int .i64 y.k, .string y.s, .int .i64 0]) (set_blk (cs' := #[.int .i64 y.k, .string ⟨#[]⟩, .int .i64 0]) kr2 0 (.int .i64 y.k) rfl) 1 (.string y.s) rfl) 2 (.int .i64 y.ar) rfl
          obtain ⟨r0, r1, r2⟩ := three e3
          refine bodyPost_ret (v := .tuple #[.agg #[.int .i64 y.k, .string y.s, .int .i64 y.ar], .bool true]) (by simp [results, Try.results7, go_sem, r0, r1, r2]) rfl ?_
          exact ⟨⟨(y, true), HYV.out.symm, rfl⟩, (((B4.setCell (by simp; omega) _).setCell (by simp) _).setCell (by simp) _).setCell (by simp) _⟩
        · have hs := HX2 he
          clear HX2 HY2
          have hb := Rw.next hbel b2
          have e1 := ne_lists he
          go_wp2
          go_roundw
          case rel => exact ⟨k + 1, by omega, by go_num, hb, hs⟩
          case measure => simp [intOf]; omega
      · have he : k = n := by omega
        subst he
        clear hd
        have HV : Hid (A = (dc0, false)) := HG.out HP.out
        have e3 := set_blk (cs' := #[.int .i64 0, .string ⟨#[]⟩, .int .i64 0]) (set_blk (cs' := #[.int .i64 0, .string ⟨#[]⟩, .int .i64 0]) (set_blk (cs' := #[.int .i64 0, .string ⟨#[]⟩, .int .i64 0]) kr 0 (.int .i64 0) rfl) 1 (.string ⟨#[]⟩) rfl) 2 (.int .i64 0) rfl
        obtain ⟨r0, r1, r2⟩ := three e3
        go_wp2
        refine bodyPost_ret (v := .tuple #[.agg #[.int .i64 0, .string ⟨#[]⟩, .int .i64 0], .bool false]) (by simp [results, Try.results7, go_sem, r0, r1, r2]) rfl ?_
        exact ⟨⟨(dc0, false), HV.out.symm, rfl⟩, ((B2.setCell (by simp) _).setCell (by simp) _).setCell (by simp) _⟩

end Go.Proofs.Ytljlgjgfmgilaaa.Nq
