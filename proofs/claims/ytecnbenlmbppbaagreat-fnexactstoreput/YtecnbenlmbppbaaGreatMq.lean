/-
  The program's map of a store; what is looked up in it; two maps held against each other.
-/
import Derived.Test.YtecnbenlmbppbaaGreatMp
import Derived.Test.YtecnbenlmbppbaaGreatRj
import Derived.BigQuiet
namespace Go.Proofs.YtecnbenlmbppbaaGreat.Mp
set_option maxRecDepth 8000
set_option linter.unusedSimpArgs false
set_option linter.unusedVariables false
open Go Go.ChangeShapes Go.WideShapes Go.RowKit
open Num Word Pl Rp
open Rl (Rm rm0 said)
open St (Nm nm0 NL told)

abbrev Owns (w : World) (b n : Nat) (D : DataW Value) : Prop := w.ownsMap Tryz.prog 9 elem b n D
theorem owns_block {w w' : World} {b n : Nat} {D : DataW Value} (h : Owns w b n D) (e : w'.heap[b]? = w.heap[b]?) : Owns w' b n D := by
  obtain ⟨es, clock, hb, r⟩ := h
  exact ⟨es, clock, e.trans hb, r⟩
theorem owns_below {w w' : World} {b n : Nat} {D : DataW Value} (h : Owns w b n D) (hb : Below w.heap.size w w') : Owns w' b n D := owns_block h (hb.block b h.lt)
theorem grown_below {w w' w0 : World} {b : Nat} (h : Below w0.heap.size w0 w) (hg : w.grownBy w' (some b)) (hb : w0.heap.size ≤ b) : Below w0.heap.size w0 w' :=
  h.grown hg h.size (fun k hk => by cases hk; exact hb)
theorem ranges_below {w w' : World} {b r n : Nat} {D : DataW Value} {left : Lit → Bool} {cnt : Nat} (h : w.ranges Tryz.prog 9 elem b r n D left cnt) (hb : Below w.heap.size w w') : w'.ranges Tryz.prog 9 elem b r n D left cnt :=
  h.kept (row := none) ⟨hb.os, hb.tape, hb.output, hb.size, fun i hi _ => hb.block i hi⟩ (by simp) (by simp)
theorem zeroRel (w : World) : (zeroValue 46).run Tryz.prog w = .ok (mkV (0, none, 0, 0)) w := by kernel_rfl

def ResM (w : World) (L : List NV) (n : Nat) (e : Ending) (w' : World) : Prop := Below w.heap.size w w' ∧ ∃ B D, e = .returned (.map (some B)) ∧ w.heap.size ≤ B ∧ Owns w' B n D ∧ Is D L
theorem take_snoc {T : List Nm} {k : Nat} (h : k < T.length) : T.take (k + 1) = T.take k ++ [T.getD k nm0] := by
  rw [List.take_add_one]; simp [List.getD, h]

set_option maxHeartbeats 2000000 in
theorem relsOf_any (a : Option Addr) (b off cap : Nat) (T : List Nm) (w : World) (h : St.Rd w a b off T) :
    Calls Tryz.prog 53 #[.agg #[.slice a T.length cap]] w (ResM w (mapL T) T.length) := by
  obtain ⟨W1, hW1⟩ : ∃ W1, W1 = (w.alloc (.cells #[.slice a T.length cap] 25)).alloc (.map #[] 0) := ⟨_, rfl⟩
  have B1 : Below w.heap.size w W1 := by subst hW1; exact Rw.next (below_alloc1 _ _) (below_alloc1 _ _)
  have k0 : W1.heap[w.heap.size]? = some (.cells #[.slice a T.length cap] 25 (0, 0)) := by subst hW1; rw [at_old (by simp), at_new rfl]
  have hm0 : Owns W1 (w.heap.size + 1) 0 (.map []) := by
    subst hW1
    have := World.ownsMap_made (w.alloc (.cells #[.slice a T.length cap] 25)) Tryz.prog 9 elem
    simpa using this
  have p0 := one k0
  rw [hW1] at p0
  have hmm := @run_makeMap Tryz.prog
  obtain ⟨hh, hc, ho, hs, hst⟩ := h
  have HM : Hid (∀ k, k < T.length → mapL (T.take (k + 1)) = putL (mapL (T.take k)) (nv (T.getD k nm0))) := fun k hk => by rw [take_snoc hk, mapL_app]
  have HE : Hid (T.take T.length = T) := List.take_length
  obtain ⟨n, hn⟩ : ∃ n, n = T.length := ⟨_, rfl⟩
  rw [← hn] at hh hc hs hst HM HE k0 p0 hW1 ⊢
  clear hn ho
  go_enter Tryz.func53, Tryz.ntmps53
  go_wp2
  rw [← hW1]
  clear hW1 hmm p0
  go_loopw [10] (fun i wr => ∃ (k : Nat) (D : DataW Value), k ≤ n ∧ i = .int .i64 k ∧ Below w.heap.size w wr ∧ Owns wr (w.heap.size + 1) k D ∧ Is D (mapL (T.take k))) (fun i _ => n - (intOf i).toNat)
  case atStart => exact ⟨0, .map [], Nat.zero_le _, rfl, B1, hm0, by simpa [mapL] using is_nil⟩
  case round =>
    obtain ⟨k, D, hk, rfl, hbel, hown, his⟩ := hrel
    have HI : Hid (Is D (mapL (T.take k))) := his
    clear his
    by_cases hlt : k < n
    · obtain rfl := hh (by omega)
      have hkz : (k : Int) < (n : Int) := by omega
      obtain ⟨c0, c1, c2⟩ := St.At3.of (hc k hlt) hbel (hc k hlt).lt
      have hst1 := hst k hlt
      have HX : Hid (Is (D.put (lt (T.getD k nm0).s) (.held (mkV (nv (T.getD k nm0)).2))) (mapL (T.take (k + 1)))) := by rw [Hid, HM.out k hlt]; exact HI.out.put (p := nv (T.getD k nm0)) hst1
      clear hc hh hst HM HI
      generalize T.getD k nm0 = x at c0 c1 c2 hst1 HX
      obtain ⟨xs, xr, xa, xb, xo, xc, xQ⟩ := x
      simp only [nv] at c0 c1 c2 hst1 HX
      have own1 : Owns (wr.alloc (.cells #[.string xs, .int .i64 xr, .slice xa xQ.length xc] 79)) (w.heap.size + 1) k D := hown.alloc _
      have bel1 : Below w.heap.size w (wr.alloc (.cells #[.string xs, .int .i64 xr, .slice xa xQ.length xc] 79)) := Rw.next hbel (below_alloc1 _ _)
      go_wp2_with (first
        | (at_mapUpdate; refine wpList_mapUpdate_own _ rfl _ _ _ 87 rfl 9 46 law Tryz.underlying87 elem (w.heap.size + 1) k D rfl own1 (by unfold maxLen; omega) _ _ _ rfl rfl (key_mk hst1) _ [] (elem_mk (xr, xa, xQ.length, xc)) ?_; intro w4 own2 hg2; have bel4 := grown_below bel1 hg2 (by omega))
        | go_in)
      go_roundw
      case rel => exact ⟨k + 1, _, by omega, by go_num, bel4, own2, HX.out⟩
      case measure => simp [intOf]; omega
    · have he : k = n := by omega
      subst he
      go_wp2
      go_ret
      refine ⟨hbel, _, D, rfl, by omega, hown, ?_⟩
      have := HI.out
      rw [HE.out] at this
      exact this

section
variable {ops : Array Oper} {rest : List Oper} {o : Oper} {a : Act} {Q : Exit → Act → World → Prop}
theorem look_yes (w : World) (hg : o.guard = none) (m x : Operand) (hop : o.op = Op.lookup 87 m x true) (b n : Nat) (D : DataW Value) (hm : a.eval m = .map (some b)) (hown : Owns w b n D) (s : ByteArray) (hs : s.size ≤ maxLen) (hx : a.eval x = .string s)
    (ar : Int) (A : Option Addr) (l c : Nat) (hh : Maps.has D (lt s) = true) (hat : ∀ z, D.atKey (lt s) z = .held (mkV (ar, A, l, c)))
    (hK : wpList Tryz.prog ops Q rest (a.put o.dst (.tuple #[.agg #[.int .i64 ar, .slice A l c], .bool true])) w) : wpList Tryz.prog ops Q (o :: rest) a w := by
  refine wpList_lookup_own_ok w hg m x 87 hop 9 46 law Tryz.underlying87 elem (zeroRel w) (.held (mkV (0, none, 0, 0))) [] (elem_mk _) b n D hm hown _ _ hx (key_mk hs) ?_
  intro v ps hv
  obtain ⟨_, h2⟩ := elem_inv hv
  rw [hat] at h2
  injection h2 with h2 _
  injection h2 with h2
  rw [← h2, hh]
  exact hK
theorem look_no (w : World) (hg : o.guard = none) (m x : Operand) (hop : o.op = Op.lookup 87 m x true) (b n : Nat) (D : DataW Value) (hm : a.eval m = .map (some b)) (hown : Owns w b n D) (s : ByteArray) (hs : s.size ≤ maxLen) (hx : a.eval x = .string s)
    (hh : Maps.has D (lt s) = false) (hat : ∀ z, D.atKey (lt s) z = z)
    (hK : wpList Tryz.prog ops Q rest (a.put o.dst (.tuple #[.agg #[.int .i64 0, .slice none 0 0], .bool false])) w) : wpList Tryz.prog ops Q (o :: rest) a w := by
  refine wpList_lookup_own_ok w hg m x 87 hop 9 46 law Tryz.underlying87 elem (zeroRel w) (.held (mkV (0, none, 0, 0))) [] (elem_mk _) b n D hm hown _ _ hx (key_mk hs) ?_
  intro v ps hv
  obtain ⟨_, h2⟩ := elem_inv hv
  rw [hat] at h2
  injection h2 with h2 _
  injection h2 with h2
  rw [← h2, hh]
  exact hK
/-- A range's step. -/
theorem next_rel (w : World) (hg : o.guard = none) (it : Operand) (hop : o.op = Op.next it false) (b r n : Nat) (D : DataW Value) (left : Lit → Bool) (cnt : Nat) (hit : a.eval it = .pointer (some ⟨r, 0, none⟩)) (h : w.ranges Tryz.prog 9 elem b r n D left cnt)
    (hDone : cnt = 0 → (∀ kl, left kl = false) → wpList Tryz.prog ops Q rest (a.put o.dst (.tuple #[.bool false])) w)
    (hMore : ∀ (s : ByteArray) (ar : Int) (A : Option Addr) (l c : Nat) (w' : World) (cnt' : Nat), s.size ≤ maxLen → left (lt s) = true → (∀ zd, D.atKey (lt s) zd = .held (mkV (ar, A, l, c))) → w'.ranges Tryz.prog 9 elem b r n D (fun z => left z && !z.sameKey (lt s)) cnt' → cnt' < cnt →
      w.grownBy w' (some r) → w'.heap.size = w.heap.size → (Instr.entry (.pointer (some ⟨r, 0, none⟩))).run Tryz.prog w' = .ok (.tuple #[.string s, .agg #[.int .i64 ar, .slice A l c]]) w' → wpList Tryz.prog ops Q rest (a.put o.dst (.tuple #[.bool true, .string s, .agg #[.int .i64 ar, .slice A l c]])) w') :
    wpList Tryz.prog ops Q (o :: rest) a w := by
  refine wpList_next_ranges w hg it hop 9 law elem Value.string mkV (fun key kl hk => by obtain ⟨s, rfl, _⟩ := key_inv hk; exact ⟨s, rfl⟩) (fun v y hv => (elem_inv hv).1) b r n D left cnt hit h hDone ?_
  intro s c kl y w' cnt' hk hl hv hat hr hlt hgr hsz hen
  obtain ⟨s', e, rfl, hs⟩ := key_inv hk
  injection e with e
  subst e
  obtain ⟨_, rfl⟩ := elem_inv hv
  obtain ⟨ar, A, l, c⟩ := c
  exact hMore s ar A l c w' cnt' hs hl hat hr hlt hgr hsz hen
end

theorem same_of {T : List Nm} (h : T.Pairwise (fun x y => x.s ≠ y.s)) {x y : Nm} (hx : x ∈ T) (hy : y ∈ T) (e : x.s = y.s) : x = y := by
  induction T with
  | nil => simp at hx
  | cons z T ih =>
    obtain ⟨h1, h2⟩ := List.pairwise_cons.1 h
    rcases List.mem_cons.1 hx with rfl | hx'
    · rcases List.mem_cons.1 hy with rfl | hy'
      · rfl
      · exact absurd e (h1 y hy')
    · rcases List.mem_cons.1 hy with rfl | hy'
      · exact absurd e.symm (h1 x hx')
      · exact ih h2 hx' hy'
/-- What a map of a store holds at a name. -/
theorem Is.entry {D : DataW Value} {T : List Nm} (h : Is D (T.map nv)) {s : ByteArray} {c : E4} (hat : ∀ zd, D.atKey (lt s) zd = .held (mkV c)) : ∃ x ∈ T, nv x = (s, c) := by
  rcases h.find s with ⟨p, hp, e, _, ha⟩ | ⟨_, _, ha⟩
  · obtain ⟨x, hx, rfl⟩ := List.mem_map.1 hp
    have := (ha .nil).symm.trans (hat .nil)
    injection this with this
    refine ⟨x, hx, ?_⟩
    rw [← mkV_inj this, ← e]
  · have := (ha .nil).symm.trans (hat .nil)
    cases this

set_option maxHeartbeats 4000000 in
theorem equalF_any (b1 b2 n1 n2 : Nat) (D1 D2 : DataW Value) (T U : List Nm) (w : World) (o1 : Owns w b1 n1 D1) (i1 : Is D1 (T.map nv)) (o2 : Owns w b2 n2 D2) (i2 : Is D2 (U.map nv)) (hT : ∀ x ∈ T, x.Ok w) (hU : ∀ x ∈ U, x.Ok w) (dT : T.Pairwise (fun x y => x.s ≠ y.s)) (R : Bool)
    (hl : T.length ≠ U.length → R = false) (hmiss : ∀ x ∈ T, (∀ y ∈ U, y.s ≠ x.s) → R = false)
    (hbad : ∀ x ∈ T, ∀ y ∈ U, y.s = x.s → Rl.sameB x.ar (said x.Q) y.ar (said y.Q) = false → R = false)
    (hgood : T.length = U.length → (∀ x ∈ T, ∃ y ∈ U, y.s = x.s ∧ Rl.sameB x.ar (said x.Q) y.ar (said y.Q) = true) → R = true) :
    Calls Tryz.prog 52 #[.map (some b1), .map (some b2), .func (.func 54) #[] #[]] w fun e w' => e = .returned (.bool R) ∧ Below w.heap.size w w' := by
  have z1 : Maps.size D1 = T.length := by rw [i1.size]; simp
  have z2 : Maps.size D2 = U.length := by rw [i2.size]; simp
  have l1 := o1.lt
  have l2 := o2.lt
  have HI1 : Hid (Is D1 (T.map nv)) := i1
  have HI2 : Hid (Is D2 (U.map nv)) := i2
  have Hl : Hid (T.length ≠ U.length → R = false) := hl
  have Hmiss : Hid (∀ x ∈ T, (∀ y ∈ U, y.s ≠ x.s) → R = false) := hmiss
  have Hbad : Hid (∀ x ∈ T, ∀ y ∈ U, y.s = x.s → Rl.sameB x.ar (said x.Q) y.ar (said y.Q) = false → R = false) := hbad
  have Hgood : Hid (T.length = U.length → (∀ x ∈ T, ∃ y ∈ U, y.s = x.s ∧ Rl.sameB x.ar (said x.Q) y.ar (said y.Q) = true) → R = true) := hgood
  have HT : Hid (∀ x ∈ T, x.Ok w) := hT
  have HU : Hid (∀ x ∈ U, x.Ok w) := hU
  have HD : Hid (T.Pairwise (fun x y => x.s ≠ y.s)) := dT
  clear i1 i2 hl hmiss hbad hgood hT hU dT
  by_cases hne : T.length = U.length
  · have HN : Hid (T.length = U.length) := hne
    have hq : ((T.length : Int) != (U.length : Int)) = false := by simp [hne]
    clear hne
    have t1 : True := trivial
    go_enter Tryz.func52, Tryz.ntmps52
    go_wp2_with (first
      | (at_len; clear t1; refine wpList_len_own _ rfl _ 87 rfl 9 46 Tryz.underlying87 elem b1 n1 D1 rfl o1 ?_; rw [z1]; have t2 : True := trivial)
      | (at_len; clear t2; refine wpList_len_own _ rfl _ 87 rfl 9 46 Tryz.underlying87 elem b2 n2 D2 rfl o2 ?_; rw [z2])
      | (at_range; refine wpList_range_own _ rfl _ 87 rfl 9 46 law Tryz.underlying87 elem b1 n1 D1 rfl o1 ?_; intro w0 hrg0 hg0 hs0)
      | go_in)
    go_frame
    go_loopw [] (fun wr => ∃ (left : Lit → Bool) (cnt : Nat), wr.ranges Tryz.prog 9 elem b1 w.heap.size n1 D1 left cnt ∧ Below w.heap.size w wr ∧ w.heap.size < wr.heap.size ∧ ∀ x ∈ T, left (lt x.s) = false → ∃ y ∈ U, y.s = x.s ∧ Rl.sameB x.ar (said x.Q) y.ar (said y.Q) = true) (fun wr => wr.rangeLeft b1 w.heap.size)
    case atStart =>
      refine ⟨_, _, hrg0, ⟨hg0.os, hg0.tape, hg0.output, hg0.size, fun k hk => hg0.block k hk (by simp)⟩, by omega, fun x hx hf => ?_⟩
      have := (HI1.out.has (lt x.s)).2 ⟨nv x, List.mem_map_of_mem hx, rfl⟩
      rw [this] at hf; cases hf
    case round =>
      obtain ⟨left, cnt, hrg, hbel, hsz, hpre⟩ := hrel
      have HP : Hid (∀ x ∈ T, left (lt x.s) = false → ∃ y ∈ U, y.s = x.s ∧ Rl.sameB x.ar (said x.Q) y.ar (said y.Q) = true) := hpre
      clear hpre
      go_wp2_with (first
        | (at_next; refine next_rel _ rfl _ rfl b1 w.heap.size n1 D1 left cnt rfl hrg ?_ ?_)
        | go_in)
      · intro _ hl0
        go_wp2
        go_ret
        exact ⟨ret_bool (Hgood.out HN.out fun x hx => HP.out x hx (hl0 _)).symm, hbel⟩
      · intro s ar A l c w1 cnt1 hs hlx hat hrg1 hlt hg1 hs1 hen
        have bel1 : Below w.heap.size w w1 := grown_below hbel hg1 (Nat.le_refl _)
        obtain ⟨x, hx, hxe⟩ := HI1.out.entry hat
        obtain ⟨xs, xr, xa, xb, xo, xc, xQ⟩ := x
        simp only [nv, Prod.mk.injEq] at hxe
        obtain ⟨rfl, rfl, rfl, rfl, rfl⟩ := hxe
        have okx : Rl.Rd w xa xb xo xQ := HT.out _ hx
        have hO2 : Owns w1 b2 n2 D2 := owns_below o2 bel1
        have hcons : (∃ y ∈ U, y.s = xs ∧ Rl.sameB xr (said xQ) y.ar (said y.Q) = true) → ∀ x ∈ T, (left (lt x.s) && !(lt x.s).sameKey (lt xs)) = false → ∃ y ∈ U, y.s = x.s ∧ Rl.sameB x.ar (said x.Q) y.ar (said y.Q) = true := by
          intro hy x' hx' hf
          by_cases e : x'.s = xs
          · obtain rfl := same_of HD.out hx' hx e
            exact hy
          · have : (lt x'.s).sameKey (lt xs) = false := Maps.sameKey_ne fun h => e (lt_inj h)
            rw [this] at hf
            exact HP.out x' hx' (by simpa using hf)
        have HC : Hid ((∃ y ∈ U, y.s = xs ∧ Rl.sameB xr (said xQ) y.ar (said y.Q) = true) → ∀ x ∈ T, (left (lt x.s) && !(lt x.s).sameKey (lt xs)) = false → ∃ y ∈ U, y.s = x.s ∧ Rl.sameB x.ar (said x.Q) y.ar (said y.Q) = true) := hcons
        clear hcons hat HP
        rcases HI2.out.find xs with ⟨p, hp, e, hh, hat2⟩ | ⟨hno, hh, hat2⟩
        · obtain ⟨y, hy, rfl⟩ := List.mem_map.1 hp
          obtain ⟨ys, yr, ya, yb, yo, yc, yQ⟩ := y
          simp only [nv] at e hat2
          subst e
          have oky : Rl.Rd w ya yb yo yQ := HU.out _ hy
          have hS := fun W h h' => Rl.sameI_any xr yr xa ya xb xo xc yb yo yc xQ yQ W h h'
          have HB1 : Hid (Rl.sameB xr (said xQ) yr (said yQ) = false → R = false) := Hbad.out _ hx _ hy rfl
          have HG1 : Hid (Rl.sameB xr (said xQ) yr (said yQ) = true → ∃ y ∈ U, y.s = ys ∧ Rl.sameB xr (said xQ) y.ar (said y.Q) = true) := fun h => ⟨_, hy, rfl, h⟩
          clear hp
          cases hsb : Rl.sameB xr (said xQ) yr (said yQ) with
          | true =>
            rw [hsb] at hS
            have hG := HC.out (HG1.out hsb)
            have HG : Hid (∀ x ∈ T, (left (lt x.s) && !(lt x.s).sameKey (lt ys)) = false → ∃ y ∈ U, y.s = x.s ∧ Rl.sameB x.ar (said x.Q) y.ar (said y.Q) = true) := hG
            clear hG hsb
            go_wp2_with (first
              | (at_lookup; refine look_yes _ rfl _ _ rfl b2 n2 D2 rfl (hO2.alloc _) ys hs rfl yr ya yQ.length yc hh hat2 ?_)
              | (go_at_call 54; refine (hS _ (okx.below (Rw.next bel1 (below_alloc2 _ _ _))) (oky.below (Rw.next bel1 (below_alloc2 _ _ _)))).mono ?_; rintro e w5 ⟨rfl, hb5⟩; have bel5 := Rw.next (below_alloc2 w1 _ _) hb5; have hr5 := ranges_below hrg1 bel5; have hz5 := bel5.size)
              | go_in)
            go_roundw
            case rel => exact ⟨_, cnt1, hr5, Rw.next bel1 bel5, by omega, HG.out⟩
            case measure => rw [hr5.left_eq, hrg.left_eq]; exact hlt
          | false =>
            rw [hsb] at hS
            have hR := HB1.out hsb
            clear hsb HB1 HG1
            subst hR
            go_wp2_with (first
              | (at_lookup; refine look_yes _ rfl _ _ rfl b2 n2 D2 rfl (hO2.alloc _) ys hs rfl yr ya yQ.length yc hh hat2 ?_)
              | (go_at_call 54; refine (hS _ (okx.below (Rw.next bel1 (below_alloc2 _ _ _))) (oky.below (Rw.next bel1 (below_alloc2 _ _ _)))).mono ?_; rintro e w5 ⟨rfl, hb5⟩; have bel5 := Rw.next (below_alloc2 w1 _ _) hb5)
              | go_in)
            go_ret
            exact ⟨rfl, Rw.next bel1 bel5⟩
        · have hR := Hmiss.out _ hx (fun y hy e => hno (nv y) (List.mem_map_of_mem hy) e)
          subst hR
          go_wp2_with (first
            | (at_lookup; refine look_no _ rfl _ _ rfl b2 n2 D2 rfl (hO2.alloc _) xs hs rfl hh hat2 ?_)
            | go_in)
          go_ret
          exact ⟨rfl, Rw.next bel1 (below_alloc2 _ _ _)⟩
  · have HR := Hl.out hne
    have hq : ((T.length : Int) != (U.length : Int)) = true := by simp; omega
    subst HR
    clear hne
    have t1 : True := trivial
    go_enter Tryz.func52, Tryz.ntmps52
    go_wp2_with (first
      | (at_len; clear t1; refine wpList_len_own _ rfl _ 87 rfl 9 46 Tryz.underlying87 elem b1 n1 D1 rfl o1 ?_; rw [z1]; have t2 : True := trivial)
      | (at_len; clear t2; refine wpList_len_own _ rfl _ 87 rfl 9 46 Tryz.underlying87 elem b2 n2 D2 rfl o2 ?_; rw [z2])
      | go_in)
    go_ret
    exact ⟨rfl, Below.refl _ _⟩

end Go.Proofs.YtecnbenlmbppbaaGreat.Mp
