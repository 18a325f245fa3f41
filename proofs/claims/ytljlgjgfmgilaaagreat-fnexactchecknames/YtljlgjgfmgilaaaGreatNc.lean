/-
  The atoms of a rule, told by name and number of terms: a list of the call's own, by the program and by the specification.
-/
import Derived.Test.YtljlgjgfmgilaaaGreatNd
import Derived.Test.YtljlgjgfmgilaaaGreatYo
namespace Go.Proofs.YtljlgjgfmgilaaaGreat.Nq
set_option maxRecDepth 8000
set_option linter.unusedSimpArgs false
set_option linter.unusedVariables false
open Go Go.ChangeShapes Go.WideShapes Go.RowKit
open Num Pl Pm

/-- An atom without what its slice holds. -/
structure HA where
  s : ByteArray
  a : Option Addr
  l : Nat
  c : Nat
def ha0 : HA := ⟨⟨#[]⟩, none, 0, 0⟩
def kdHa : Kd HA HdL where
  z := ha0
  t := 52
  n := 2
  pos := by decide
  val := fun x j => match j with | 0 => .string x.s | _ => .slice x.a x.l x.c
  l := fun x => (x.s, x.l)
  wt := fun _ => 0
  ok := fun _ _ x => x.s.size ≤ maxLen ∧ x.l ≤ maxLen
  keep := fun h _ => h
  mono := fun h _ => h
def hgHa : Hg kdHa where
  hang := fun _ => []
  keepH := fun h _ => h
def lite (x : Atm) : HA := ⟨x.s, x.A.a, x.A.Q.length, x.A.c⟩
theorem lite_ok {lo : Nat} {w : World} {x : Atm} (h : x.Ok lo w) : (lite x).s.size ≤ maxLen ∧ (lite x).l ≤ maxLen := ⟨h.1, h.2.len⟩
theorem lite_l (x : Atm) : kdHa.l (lite x) = hd x.l := rfl
theorem cellsHa {lo : Nat} {w : World} {s : Sl HA} (h : Rd kdHa lo w s) {i : Nat} (hi : i < s.Q.length) : w.cell? ⟨s.b, s.o + i * 2, none⟩ = some (.string (s.Q.getD i ha0).s) ∧ w.cell? ⟨s.b, s.o + i * 2 + 1, none⟩ = some (.slice (s.Q.getD i ha0).a (s.Q.getD i ha0).l (s.Q.getD i ha0).c) :=
  ⟨h.cell i hi 0 (by decide), h.cell i hi 1 (by decide)⟩
abbrev OA (w : World) (B : Nat) (v : Value) (T : List HA) : Prop := OL hgHa 52 w B v T
/-- A list of one atom, in a block of its own. -/
theorem OA.one {w : World} {g B : Nat} {x : HA} (k : w.heap[g]? = some (.cells #[.string x.s, .slice x.a x.l x.c] 52 (0, 0))) (hB : B ≤ g) (hx : x.s.size ≤ maxLen ∧ x.l ≤ maxLen) : OA w B (.slice (some ⟨g, 0, none⟩) 1 1) [x] := by
  refine ⟨⟨rfl, .inr ⟨g, 1, #[.string x.s, .slice x.a x.l x.c], rfl, hB, k, by simp, by unfold maxLen; omega, rfl, by simp [cels, flat, kdHa, List.range, List.range.loop]⟩⟩, fun y hy => ?_, fun y _ p hp => by simp [hgHa] at hp, fun y _ p hp => by simp [hgHa] at hp⟩
  obtain rfl := List.mem_singleton.1 hy
  exact hx
theorem infoHa : (Tryz.prog.info? 52).map (fun i => (i.zero, i.size, i.bytes)) = some (some (.agg #[.string ⟨#[]⟩, .slice none 0 0]), 2, 40) := by kernel_rfl
theorem body_step (B : List LtL) {k : Nat} {l0 : LtL} (h : k < B.length) : bodyAt (B.take (k + 1)) = bodyAt (B.take k) ++ (if (B.getD k l0).1 = 3 then [] else [hd (B.getD k l0).2.1]) := by
  rw [List.take_add_one]
  unfold bodyAt
  rw [List.filter_append, List.map_append]
  congr 1
  have e : B[k]?.toList = [B.getD k l0] := by simp [List.getD, h]
  rw [e]
  by_cases hk : (B.getD k l0).1 = 3
  · rw [if_pos hk, List.filter_cons_of_neg (by simpa using hk)]; rfl
  · rw [if_neg hk, List.filter_cons_of_pos (by simpa using hk)]; rfl
def lt0 : LtL := kdLm.l lm0
theorem told_get (Q : List Lm) (i : Nat) : (told kdLm Q).getD i lt0 = kdLm.l (Q.getD i lm0) := told_at (K := kdLm) Q i
/-- What both functions leave. -/
def ResA (x : Rm) (w : World) (e : Ending) (w' : World) : Prop := Below w.heap.size w w' ∧ ∃ s : Sl HA, e = .returned (.slice s.a s.Q.length s.c) ∧ Rd kdHa 0 w' s ∧ told kdHa s.Q = atoms x.l ∧ s.Q.length ≤ 9

section
variable {ops : Array Oper} {rest : List Oper} {o : Oper} {a : Act} {w : World} {Q : Exit → Act → World → Prop}
theorem wpList_appA (hgd : o.guard = none) (s x : Operand)
    (ho : o.op = .call { callee := .builtin .append, args := #[s, x], argTypes := #[87, 87] }) (hty : o.type = 87) (B R c : Nat) (v : Value) (T : List HA) (y : HA) (hs : a.eval s = v) (hx : a.eval x = .slice (some ⟨R, 0, none⟩) 1 c)
    (h0 : OA w B v T) (hB : B ≤ w.heap.size) (hR : w.heap[R]? = some (.cells #[.string y.s, .slice y.a y.l y.c] 52 (0, 0))) (hlen : T.length ≤ 100) (hy : y.s.size ≤ maxLen ∧ y.l ≤ maxLen)
    (h : ∀ v' w', OA w' B v' (T ++ [y]) → w.grownBy w' v.ownBlock → wpList Tryz.prog ops Q rest (a.put o.dst v') w') : wpList Tryz.prog ops Q (o :: rest) a w := by
  obtain ⟨p0, p1⟩ := Pl.two hR
  obtain ⟨v', w', hrun, h1, h2⟩ := OL.app h0 Tryz.underlying87 infoHa (by decide) y hy (fun p hp => by simp [hgHa] at hp) (fun p hp => by simp [hgHa] at hp) (R := R) (c := c) (fun j hj => by
    match j, hj with
    | 0, _ => exact p0
    | 1, _ => exact p1) hB (by omega) rfl (fun j hj => by
    match j, hj with
    | 0, _ => rfl
    | 1, _ => rfl)
  refine wpList_plain hgd fun K' hK' => ?_
  unfold Oper.wp
  simp [execOp, ho, hty, resolve, invoke, builtin, hs, hx, hrun, Result.andThen]
  exact hK' _ _ (h v' w' h1 h2)
end

set_option maxHeartbeats 4000000 in
theorem atomsI_any (x : Rm) (w : World) (hx : x.Ok 0 w) (hl : x.B.Q.length ≤ 8) : Calls Tryz.prog 50 #[.agg #[.int .i64 x.k, .string x.h.s, .slice x.h.A.a x.h.A.Q.length x.h.A.c, .slice x.B.a x.B.Q.length x.B.c]] w (ResA x w) := by
  have HT : Hid (∀ k T, k < x.B.Q.length → told kdHa T = hd x.h.l :: bodyAt ((told kdLm x.B.Q).take k) → ∀ y, y = x.B.Q.getD k lm0 → y.k ≠ 3 → told kdHa (T ++ [lite y.h]) = hd x.h.l :: bodyAt ((told kdLm x.B.Q).take (k + 1))) := fun k T hk h y hy h3 => by
    subst hy
    rw [body_step (l0 := lt0) _ (by rw [told_len]; exact hk), told_get, if_neg (show ¬ (kdLm.l (x.B.Q.getD k lm0)).1 = 3 from h3), told_app, h]; rfl
  have HN : Hid (∀ k T, k < x.B.Q.length → told kdHa T = hd x.h.l :: bodyAt ((told kdLm x.B.Q).take k) → ∀ y, y = x.B.Q.getD k lm0 → y.k = 3 → told kdHa T = hd x.h.l :: bodyAt ((told kdLm x.B.Q).take (k + 1))) := fun k T hk h y hy h3 => by
    subst hy
    rw [body_step (l0 := lt0) _ (by rw [told_len]; exact hk), told_get, if_pos (show (kdLm.l (x.B.Q.getD k lm0)).1 = 3 from h3), List.append_nil, h]
  have HE : Hid (∀ T, told kdHa T = hd x.h.l :: bodyAt ((told kdLm x.B.Q).take x.B.Q.length) → told kdHa T = atoms x.l) := fun T h => by
    rw [h, ← told_len (K := kdLm) x.B.Q, List.take_length]; rfl
  have HS : Hid (told kdHa [lite x.h] = hd x.h.l :: bodyAt ((told kdLm x.B.Q).take 0)) := by simp [told, bodyAt]; rfl
  unfold ResA
  obtain ⟨W1, hW1⟩ : ∃ W1, W1 = (w.alloc (.cells #[.int .i64 x.k, .string x.h.s, .slice x.h.A.a x.h.A.Q.length x.h.A.c, .slice x.B.a x.B.Q.length x.B.c] 55)).alloc (.cells #[.string x.h.s, .slice x.h.A.a x.h.A.Q.length x.h.A.c] 52) := ⟨_, rfl⟩
  have B : Below w.heap.size w W1 := by rw [hW1]; exact Rw.next (below_alloc1 _ _) (below_alloc1 _ _)
  have k0 : W1.heap[w.heap.size]? = some (.cells #[.int .i64 x.k, .string x.h.s, .slice x.h.A.a x.h.A.Q.length x.h.A.c, .slice x.B.a x.B.Q.length x.B.c] 55 (0, 0)) := by rw [hW1, at_old (by simp), at_new rfl]
  have k1 : W1.heap[w.heap.size + 1]? = some (.cells #[.string x.h.s, .slice x.h.A.a x.h.A.Q.length x.h.A.c] 52 (0, 0)) := by rw [hW1]; exact at_new (by simp)
  have o1 := OA.one (x := lite x.h) (B := w.heap.size) k1 (by omega) (lite_ok hx.1)
  have h1 := hx.2
  have HH : Hid (∀ i, i < x.B.Q.length → (lite (x.B.Q.getD i lm0).h).s.size ≤ maxLen ∧ (lite (x.B.Q.getD i lm0).h).l ≤ maxLen) := fun i hi => lite_ok (hx.2.ok i hi).1
  have p0 : W1.cell? ⟨w.heap.size, 3, none⟩ = some (.slice x.B.a x.B.Q.length x.B.c) := blk_cell k0 3 rfl
  obtain ⟨n, hn⟩ : ∃ n, n = x.B.Q.length := ⟨_, rfl⟩
  rw [← hn] at HT HN HE HH k0 p0 hW1 hl ⊢
  have HNQ : Hid (n = x.B.Q.length) := hn
  have HO : Hid (OA W1 w.heap.size (.slice (some ⟨w.heap.size + 1, 0, none⟩) 1 1) [lite x.h]) := o1
  clear hx hn k1 o1
  obtain ⟨xk, xh, xB⟩ := x
  obtain ⟨ba, bb, bo, bc, bQ⟩ := xB
  simp only at HT HN HE HH HNQ HO HS k0 p0 hW1 hl h1 ⊢
  go_enter Tryz.func50, Tryz.ntmps50
  go_wp2
  rw [← hW1]
  clear hW1 p0 k0
  go_loopw [3, 12] (fun o i wr => ∃ (k : Nat) (v : Value) (T : List HA), k ≤ n ∧ v = o ∧ i = .int .i64 k ∧ Below w.heap.size w wr ∧ OA wr w.heap.size v T ∧ told kdHa T = hd xh.l :: bodyAt ((told kdLm bQ).take k) ∧ T.length ≤ k + 1) (fun _ i _ => n - (intOf i).toNat)
  case atStart => exact ⟨0, _, _, Nat.zero_le _, rfl, rfl, B, HO.out, HS.out, by simp⟩
  case round =>
    obtain ⟨k, v, T, hk, rfl, rfl, hbel, hoT, htT, hlT⟩ := hrel
    have HOT : Hid (OA wr w.heap.size v T) := hoT
    have HTT : Hid (told kdHa T = hd xh.l :: bodyAt ((told kdLm bQ).take k)) := htT
    clear hoT htT HO HS
    have hws := hbel.size
    by_cases hlt : k < n
    · have hh := h1.head (by have := HNQ.out; simp only; omega)
      have hkz : (k : Int) < (n : Int) := by omega
      obtain ⟨c0, c1, c2, c3, c4, c5, c6, c7, c8, c9⟩ := cellsLm (h1.below hbel) (i := k) (by have := HNQ.out; simp only; omega)
      simp only at hh c0 c1 c2 c3 c4 c5 c6 c7 c8 c9
      obtain rfl := hh
      have HH1 := HH.out k hlt
      have HA1 : Hid (∀ y, y = bQ.getD k lm0 → y.k ≠ 3 → told kdHa (T ++ [lite y.h]) = hd xh.l :: bodyAt ((told kdLm bQ).take (k + 1))) := fun y hy h => HT.out k T hlt HTT.out y hy h
      have HB1 : Hid (∀ y, y = bQ.getD k lm0 → y.k = 3 → told kdHa T = hd xh.l :: bodyAt ((told kdLm bQ).take (k + 1))) := fun y hy h => HN.out k T hlt HTT.out y hy h
      clear h1 HT HN HE HH HNQ HTT
      obtain ⟨y, hy⟩ : ∃ y, y = bQ.getD k lm0 := ⟨_, rfl⟩
      rw [← hy] at c0 c1 c2 c3 c4 c5 c6 c7 c8 c9 HH1
      have HA2 := HA1.out y hy
      have HB2 := HB1.out y hy
      clear HA1 HB1 hy
      by_cases h3 : y.k = 3
      · have HX : Hid (told kdHa T = hd xh.l :: bodyAt ((told kdLm bQ).take (k + 1))) := HB2 h3
        clear HA2 HB2
        have b2 := below_alloc1 wr (.cells #[.int .i64 3, .string y.h.s, .slice y.h.A.a y.h.A.Q.length y.h.A.c, .int .i64 y.op, .string y.p.v, .int .i64 y.p.n, .string y.p.s, .string y.q.v, .int .i64 y.q.n, .string y.q.s] 96)
        have D := Rw.next hbel b2
        have o2 := HOT.out.below b2
        clear HOT
        go_wp2
        go_roundw
        case rel => exact ⟨k + 1, _, T, by omega, rfl, by go_num, D, o2, HX.out, by omega⟩
        case measure => simp [intOf]; omega
      · have HX : Hid (told kdHa (T ++ [lite y.h]) = hd xh.l :: bodyAt ((told kdLm bQ).take (k + 1))) := HA2 h3
        clear HA2 HB2
        have b2 := below_alloc1 wr (.cells #[.int .i64 y.k, .string y.h.s, .slice y.h.A.a y.h.A.Q.length y.h.A.c, .int .i64 y.op, .string y.p.v, .int .i64 y.p.n, .string y.p.s, .string y.q.v, .int .i64 y.q.n, .string y.q.s] 96)
        have D := Rw.next hbel b2
        have b3 := below_alloc1 (wr.alloc (.cells #[.int .i64 y.k, .string y.h.s, .slice y.h.A.a y.h.A.Q.length y.h.A.c, .int .i64 y.op, .string y.p.v, .int .i64 y.p.n, .string y.p.s, .string y.q.v, .int .i64 y.q.n, .string y.q.s] 96)) (.cells #[.string y.h.s, .slice y.h.A.a y.h.A.Q.length y.h.A.c] 52)
        have D3 := Rw.next D b3
        have o2 := (HOT.out.below b2).below b3
        clear HOT
        go_wp2_with (at_builtin; refine wpList_appA rfl _ _ rfl rfl w.heap.size _ 1 _ T (lite y.h) rfl rfl o2 (by simp; omega) (at_new (by simp)) (by omega) HH1 ?_; intro v3 w3 o3 hg3; have D4 := D3.grown hg3 D3.size (fun j hj => (o2.lt hj).1))
        go_roundw
        case rel => exact ⟨k + 1, _, _, by omega, rfl, by go_num, D4, o3, HX.out, by simp; omega⟩
        case measure => simp [intOf]; omega
    · have he : k = n := by omega
      subst he
      clear h1
      have HX : Hid (told kdHa T = atoms _) := HE.out T HTT.out
      obtain ⟨s, rfl, rfl, hrs, _⟩ := HOT.out.form (by omega)
      go_wp2
      go_ret
      exact ⟨hbel, s, rfl, hrs, HX.out, by omega⟩

set_option maxHeartbeats 4000000 in
theorem atomsS_any (x : Rm) (w : World) (hx : x.Ok 0 w) (hl : x.B.Q.length ≤ 8) : Calls Tryz.prog 40 #[.agg #[.int .i64 x.k, .string x.h.s, .slice x.h.A.a x.h.A.Q.length x.h.A.c, .slice x.B.a x.B.Q.length x.B.c]] w (ResA x w) := by
  have HT : Hid (∀ k T, k < x.B.Q.length → told kdHa T = hd x.h.l :: bodyAt ((told kdLm x.B.Q).take k) → ∀ y, y = x.B.Q.getD k lm0 → y.k ≠ 3 → told kdHa (T ++ [lite y.h]) = hd x.h.l :: bodyAt ((told kdLm x.B.Q).take (k + 1))) := fun k T hk h y hy h3 => by
    subst hy
    rw [body_step (l0 := lt0) _ (by rw [told_len]; exact hk), told_get, if_neg (show ¬ (kdLm.l (x.B.Q.getD k lm0)).1 = 3 from h3), told_app, h]; rfl
  have HN : Hid (∀ k T, k < x.B.Q.length → told kdHa T = hd x.h.l :: bodyAt ((told kdLm x.B.Q).take k) → ∀ y, y = x.B.Q.getD k lm0 → y.k = 3 → told kdHa T = hd x.h.l :: bodyAt ((told kdLm x.B.Q).take (k + 1))) := fun k T hk h y hy h3 => by
    subst hy
    rw [body_step (l0 := lt0) _ (by rw [told_len]; exact hk), told_get, if_pos (show (kdLm.l (x.B.Q.getD k lm0)).1 = 3 from h3), List.append_nil, h]
  have HE : Hid (∀ T, told kdHa T = hd x.h.l :: bodyAt ((told kdLm x.B.Q).take x.B.Q.length) → told kdHa T = atoms x.l) := fun T h => by
    rw [h, ← told_len (K := kdLm) x.B.Q, List.take_length]; rfl
  have HS : Hid (told kdHa [lite x.h] = hd x.h.l :: bodyAt ((told kdLm x.B.Q).take 0)) := by simp [told, bodyAt]; rfl
  unfold ResA
  obtain ⟨W1, hW1⟩ : ∃ W1, W1 = (w.alloc (.cells #[.int .i64 x.k, .string x.h.s, .slice x.h.A.a x.h.A.Q.length x.h.A.c, .slice x.B.a x.B.Q.length x.B.c] 55)).alloc (.cells #[.string x.h.s, .slice x.h.A.a x.h.A.Q.length x.h.A.c] 52) := ⟨_, rfl⟩
  have B : Below w.heap.size w W1 := by rw [hW1]; exact Rw.next (below_alloc1 _ _) (below_alloc1 _ _)
  have k0 : W1.heap[w.heap.size]? = some (.cells #[.int .i64 x.k, .string x.h.s, .slice x.h.A.a x.h.A.Q.length x.h.A.c, .slice x.B.a x.B.Q.length x.B.c] 55 (0, 0)) := by rw [hW1, at_old (by simp), at_new rfl]
  have k1 : W1.heap[w.heap.size + 1]? = some (.cells #[.string x.h.s, .slice x.h.A.a x.h.A.Q.length x.h.A.c] 52 (0, 0)) := by rw [hW1]; exact at_new (by simp)
  have o1 := OA.one (x := lite x.h) (B := w.heap.size + 1) k1 (by omega) (lite_ok hx.1)
  have h1 := hx.2
  have HH : Hid (∀ i, i < x.B.Q.length → (lite (x.B.Q.getD i lm0).h).s.size ≤ maxLen ∧ (lite (x.B.Q.getD i lm0).h).l ≤ maxLen) := fun i hi => lite_ok (hx.2.ok i hi).1
  have p0 : W1.cell? ⟨w.heap.size, 3, none⟩ = some (.slice x.B.a x.B.Q.length x.B.c) := blk_cell k0 3 rfl
  obtain ⟨n, hn⟩ : ∃ n, n = x.B.Q.length := ⟨_, rfl⟩
  rw [← hn] at HT HN HE HH k0 p0 hW1 hl ⊢
  have HNQ : Hid (n = x.B.Q.length) := hn
  have HO : Hid (OA W1 (w.heap.size + 1) (.slice (some ⟨w.heap.size + 1, 0, none⟩) 1 1) [lite x.h]) := o1
  clear hx hn k1 o1
  obtain ⟨xk, xh, xB⟩ := x
  obtain ⟨ba, bb, bo, bc, bQ⟩ := xB
  simp only at HT HN HE HH HNQ HO HS k0 p0 hW1 hl h1 ⊢
  go_enter Tryz.func40, Tryz.ntmps40
  go_wp2
  rw [← hW1]
  clear hW1 p0
  go_loopw [3, 11] (fun o i wr => ∃ (k : Nat) (v : Value) (T : List HA), k ≤ n ∧ v = o ∧ i = .int .i64 k ∧ Below w.heap.size w wr ∧ wr.heap[w.heap.size]? = some (.cells #[.int .i64 xk, .string xh.s, .slice xh.A.a xh.A.Q.length xh.A.c, .slice ba n bc] 55 (0, 0)) ∧ OA wr (w.heap.size + 1) v T ∧ told kdHa T = hd xh.l :: bodyAt ((told kdLm bQ).take k) ∧ T.length ≤ k + 1) (fun _ i _ => n - (intOf i).toNat)
  case atStart => exact ⟨0, _, _, Nat.zero_le _, rfl, rfl, B, k0, HO.out, HS.out, by simp⟩
  case round =>
    obtain ⟨k, v, T, hk, rfl, rfl, hbel, kb, hoT, htT, hlT⟩ := hrel
    have HOT : Hid (OA wr (w.heap.size + 1) v T) := hoT
    have HTT : Hid (told kdHa T = hd xh.l :: bodyAt ((told kdLm bQ).take k)) := htT
    clear hoT htT HO HS k0
    have p0 : wr.cell? ⟨w.heap.size, 3, none⟩ = some (.slice ba n bc) := blk_cell kb 3 rfl
    have lb := Pl.blk_lt kb
    have hws := hbel.size
    by_cases hlt : k < n
    · have hh := h1.head (by have := HNQ.out; simp only; omega)
      have hkz : (k : Int) < (n : Int) := by omega
      obtain ⟨c0, c1, c2, c3, c4, c5, c6, c7, c8, c9⟩ := cellsLm (h1.below hbel) (i := k) (by have := HNQ.out; simp only; omega)
      simp only at hh c0 c1 c2 c3 c4 c5 c6 c7 c8 c9
      obtain rfl := hh
      have HH1 := HH.out k hlt
      have HA1 : Hid (∀ y, y = bQ.getD k lm0 → y.k ≠ 3 → told kdHa (T ++ [lite y.h]) = hd xh.l :: bodyAt ((told kdLm bQ).take (k + 1))) := fun y hy h => HT.out k T hlt HTT.out y hy h
      have HB1 : Hid (∀ y, y = bQ.getD k lm0 → y.k = 3 → told kdHa T = hd xh.l :: bodyAt ((told kdLm bQ).take (k + 1))) := fun y hy h => HN.out k T hlt HTT.out y hy h
      clear h1 HT HN HE HH HNQ HTT
      obtain ⟨y, hy⟩ : ∃ y, y = bQ.getD k lm0 := ⟨_, rfl⟩
      rw [← hy] at c0 c1 c2 c3 c4 c5 c6 c7 c8 c9 HH1
      have HA2 := HA1.out y hy
      have HB2 := HB1.out y hy
      clear HA1 HB1 hy
      by_cases h3 : y.k = 3
      · have HX : Hid (told kdHa T = hd xh.l :: bodyAt ((told kdLm bQ).take (k + 1))) := HB2 h3
        clear HA2 HB2
        go_wp2
        go_roundw
        case rel => exact ⟨k + 1, _, T, by omega, rfl, by go_num, hbel, kb, HOT.out, HX.out, by omega⟩
        case measure => simp [intOf]; omega
      · have HX : Hid (told kdHa (T ++ [lite y.h]) = hd xh.l :: bodyAt ((told kdLm bQ).take (k + 1))) := HA2 h3
        clear HA2 HB2
        have b3 := below_alloc1 wr (.cells #[.string y.h.s, .slice y.h.A.a y.h.A.Q.length y.h.A.c] 52)
        have D3 := Rw.next hbel b3
        have o2 := HOT.out.below b3
        have kb3 := (b3.block _ lb).trans kb
        clear HOT
        go_wp2_with (at_builtin; refine wpList_appA rfl _ _ rfl rfl (w.heap.size + 1) _ 1 _ T (lite y.h) rfl rfl o2 (by simp; omega) (at_new (by simp)) (by omega) HH1 ?_; intro v3 w3 o3 hg3; have D4 := D3.grown hg3 D3.size (fun j hj => by have := (o2.lt hj).1; omega); have kb4 := (hg3.block _ (Pl.blk_lt kb3) (fun e => by have := (o2.lt e.symm).1; omega)).trans kb3)
        go_roundw
        case rel => exact ⟨k + 1, _, _, by omega, rfl, by go_num, D4, kb4, o3, HX.out, by simp; omega⟩
        case measure => simp [intOf]; omega
    · have he : k = n := by omega
      subst he
      clear h1
      have HX : Hid (told kdHa T = atoms _) := HE.out T HTT.out
      obtain ⟨s, rfl, rfl, hrs, _⟩ := HOT.out.form (by omega)
      go_wp2
      go_ret
      exact ⟨hbel, s, rfl, hrs, HX.out, by omega⟩

end Go.Proofs.YtljlgjgfmgilaaaGreat.Nq
