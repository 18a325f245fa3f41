/-
  Texts laid together: Cr, Sl, Scr, Ck, Eo, Ep, Fa, Fb, Fc, Ed, Sd.
-/
import Derived.Test.YtkpchlojapkimaaGreatMq
import Derived.Test.YtkpchlojapkimaaGreatRo
import Derived.Test.YtkpchlojapkimaaGreatMda
import Derived.Test.YtkpchlojapkimaaGreatSc
import Derived.Test.YtkpchlojapkimaaGreatMs
import Derived.Deep.RegionHeld3
import Derived.Test.YtkpchlojapkimaaGreatEm
import Derived.Maps.AppendAt
import Derived.Test.YtkpchlojapkimaaGreatEf
import Derived.Test.YtkpchlojapkimaaGreatEg
import Derived.Test.YtkpchlojapkimaaGreatHn
import Derived.Test.YtkpchlojapkimaaGreatEc
import Derived.Deep.RegionWith
namespace Go.Proofs.YtkpchlojapkimaaGreat.Mp
set_option maxRecDepth 8000
set_option linter.unusedSimpArgs false
set_option linter.unusedVariables false
open Go Go.ChangeShapes Go.WideShapes Go.RowKit
open Num Word Pl Rp
open Rl (Rm rm0 said)
open St (Nm nm0 NL told)

set_option maxHeartbeats 4000000 in
theorem copyRel_any (ar : Int) (a : Option Addr) (b off cap : Nat) (Q : List Rm) (w : World) (h : Rl.Rd w a b off Q) (h4 : Q.length ≤ 100000) :
    Calls Tryz.prog 44 #[.agg #[.int .i64 ar, .slice a Q.length cap]] w (Rl.ResL w ar (said Q)) := by
  obtain ⟨W1, hW1⟩ : ∃ W1, W1 = (w.alloc (.cells #[.int .i64 ar, .slice a Q.length cap] 67)).alloc (.cells #[.int .i64 0, .slice none 0 0] 67) := ⟨_, rfl⟩
  have B1 : Below w.heap.size w W1 := by subst hW1; exact below_alloc2 _ _ _
  have k0 : W1.heap[w.heap.size]? = some (.cells #[.int .i64 ar, .slice a Q.length cap] 67 (0, 0)) := by subst hW1; rw [at_old (by simp), at_new rfl]
  have k1 : W1.heap[w.heap.size + 1]? = some (.cells #[.int .i64 0, .slice none 0 0] 67 (0, 0)) := by subst hW1; exact at_new (by simp)
  have r0 := h.below B1
  obtain ⟨p0, p1⟩ := two k0
  obtain ⟨z0, z1⟩ := two k1
  have f1 := Vl.free k1
  clear h
  go_enter Tryz.func44, Tryz.ntmps44
  go_wp2
  rw [← hW1]
  clear hW1
  go_region_held3 (fun w' => w'.cell? ⟨w.heap.size, 0, none⟩ = some (.int .i64 ar) ∧ w'.cell? ⟨w.heap.size, 1, none⟩ = some (.slice a Q.length cap)) (go_keep) (first
    | (go_at_call 99; clear p0 p1 z0 z1 f1; refine (Rl.rowSet_any _ (.int .i64 0) _ _ _ _).mono ?_; rintro e w2 ⟨rfl, hb⟩; replace hb := Rw.next ((Below.refl _ _).drew) hb; replace B1 := Rw.next B1 hb; replace k0 := (hb.block _ (blk_lt k0)).trans k0; replace k1 := (hb.block _ (blk_lt k1)).trans k1; replace r0 := r0.below hb; clear hb; obtain ⟨p0, p1⟩ := two k0; obtain ⟨z0, z1⟩ := two k1; have f1 := Vl.free k1)
    | (go_at_call 98; clear p0 p1 z0 z1 f1; refine (Rl.relOf_any _ _ _ _ _ _ _ r0 h4).mono ?_; rintro e w3 ⟨v, F, rfl, hot, sF, hb⟩; obtain ⟨ua, un, uc, rfl⟩ := hot.og.slice; replace B1 := Rw.next B1 hb; replace k0 := (hb.block _ (blk_lt k0)).trans k0; have hs1 := blk_lt k1; replace k1 := (hb.block _ (blk_lt k1)).trans k1; have sb := hb.size; clear hb; obtain ⟨p0, p1⟩ := two k0; obtain ⟨z0, z1⟩ := two k1; have f1 := Vl.free k1; have HS : Hid (said F = said Q) := sF; clear sF))
  go_wp2
  have hs := B1.size
  refine bodyPost_ret (v := .agg #[.int .i64 ar, .slice ua un uc]) (by simp [results, Tryz.results44, go_sem, z0, z1]) rfl ⟨.slice ua un uc, F, rfl, ?_, HS.out, ?_⟩
  · refine Rl.OT.mono (B := w2.heap.size) ?_ (by omega)
    refine hot.keep fun z hz hzB => ?_
    repeat (first | rfl | refine (Below.heap_setCell _ _ _ _ (by simp; omega)).trans ?_)
  · repeat (first | with_reducible exact B1 | refine Vl.bset ?_ (by simp <;> omega))

end Go.Proofs.YtkpchlojapkimaaGreat.Mp

namespace Go.Proofs.YtkpchlojapkimaaGreat.Mp
set_option maxRecDepth 8000
set_option linter.unusedSimpArgs false
set_option linter.unusedVariables false
open Go Go.ChangeShapes Go.WideShapes Go.RowKit
open Num Word Pl Rp
open Rl (Rm rm0 said)
open St (Nm nm0 NL told storeB)

theorem told_mem {T : List Nm} {l : NL} (h : l ∈ told T) : ∃ x ∈ T, x.l = l := List.mem_map.1 h
theorem mem_told {T : List Nm} {x : Nm} (h : x ∈ T) : x.l ∈ told T := List.mem_map_of_mem h
theorem rd_ok {w : World} {a : Option Addr} {b off : Nat} {T : List Nm} (h : St.Rd w a b off T) : ∀ x ∈ T, x.Ok w := fun x hx => by
  obtain ⟨i, hi, rfl⟩ := List.getElem_of_mem hx
  have := h.ok i hi
  simpa [List.getD, hi] using this

theorem few_at {T : List Nm} (hB : storeB (told T) = true) {x : Nm} (hx : x ∈ T) : x.Q.length ≤ 100000 := by
  have := (store_one hB (mem_told hx)).2.few
  simp only [Nm.l, Rl.said_len] at this
  omega

theorem look_any {ops : Array Oper} {rest : List Oper} {o : Oper} {a : Act} {Q : Exit → Act → World → Prop} (w : World) (hg : o.guard = none) (m x : Operand) (hop : o.op = Op.lookup 77 m x true) (b n : Nat) (D : DataW Value) (T : List Nm) (hm : a.eval m = .map (some b)) (hown : Owns w b n D) (his : Is D (T.map nv)) (s : ByteArray) (hs : s.size ≤ maxLen) (hx : a.eval x = .string s)
    (hyes : ∀ y ∈ T, y.s = s → wpList Tryz.prog ops Q rest (a.put o.dst (.tuple #[.agg #[.int .i64 y.ar, .slice y.a y.Q.length y.c], .bool true])) w)
    (hno : (∀ y ∈ T, y.s ≠ s) → wpList Tryz.prog ops Q rest (a.put o.dst (.tuple #[.agg #[.int .i64 0, .slice none 0 0], .bool false])) w) : wpList Tryz.prog ops Q (o :: rest) a w := by
  rcases his.find s with ⟨p, hp, e, hh, hat⟩ | ⟨hn, hh, hat⟩
  · obtain ⟨y, hy, rfl⟩ := List.mem_map.1 hp
    exact look_yes w hg m x hop b n D hm hown s hs hx y.ar y.a y.Q.length y.c hh hat (hyes y hy e)
  · exact look_no w hg m x hop b n D hm hown s hs hx hh hat (hno fun y hy => hn _ (List.mem_map_of_mem hy))

set_option maxHeartbeats 4000000 in
theorem l12Rel_any (a : Option Addr) (b off cap : Nat) (T : List Nm) (s : ByteArray) (w : World) (h : St.Rd w a b off T) :
    Calls Tryz.prog 59 #[.agg #[.slice a T.length cap], .string s] w fun e w' => Below w.heap.size w w' ∧ ((∃ x ∈ T, x.s = s ∧ e = .returned (.tuple #[.agg #[.int .i64 x.ar, .slice x.a x.Q.length x.c], .bool true])) ∨ ((∀ x ∈ T, x.s ≠ s) ∧ e = .returned (.tuple #[.agg #[.int .i64 0, .slice none 0 0], .bool false]))) := by
  obtain ⟨W1, hW1⟩ : ∃ W1, W1 = (w.alloc (.cells #[.slice a T.length cap] 25)).alloc (.cells #[.int .i64 0, .slice none 0 0] 67) := ⟨_, rfl⟩
  have B1 : Below w.heap.size w W1 := by subst hW1; exact below_alloc2 _ _ _
  have k0 : W1.heap[w.heap.size]? = some (.cells #[.slice a T.length cap] 25 (0, 0)) := by subst hW1; rw [at_old (by simp), at_new rfl]
  have k1 : W1.heap[w.heap.size + 1]? = some (.cells #[.int .i64 0, .slice none 0 0] 67 (0, 0)) := by subst hW1; exact at_new (by simp)
  obtain ⟨hh, hc, ho, hs, hst⟩ := h.below B1
  have HE : Hid (∀ x ∈ T, ∃ i, i < T.length ∧ T.getD i nm0 = x) := fun x hx => by
    obtain ⟨i, hi, e⟩ := List.getElem_of_mem hx
    exact ⟨i, hi, by simpa [List.getD, hi] using e⟩
  have HQ : Hid (∀ i, i < T.length → T.getD i nm0 ∈ T) := fun i hi => St.mem_at hi
  obtain ⟨n, hn⟩ : ∃ n, n = T.length := ⟨_, rfl⟩
  rw [← hn] at hh hc hs hst HE HQ k0 hW1 ⊢
  clear hn ho h hst
  go_enter Tryz.func59, Tryz.ntmps59
  go_wp2
  rw [← hW1]
  clear hW1
  obtain ⟨z0, z1⟩ := two k1
  have f1 := Vl.free k1
  have lW := blk_lt k1
  have p0 := one k0
  go_loopw [10] (fun i wr => ∃ k : Nat, k ≤ n ∧ i = .int .i64 k ∧ wr = W1 ∧ ∀ i, i < k → (T.getD i nm0).s ≠ s) (fun i _ => n - (intOf i).toNat)
  case atStart => exact ⟨0, Nat.zero_le _, rfl, rfl, fun i hi => by omega⟩
  case round =>
    obtain ⟨k, hk, rfl, rfl, hpre⟩ := hrel
    have HP : Hid (∀ i, i < k → (T.getD i nm0).s ≠ s) := hpre
    clear hpre
    by_cases hlt : k < n
    · obtain rfl := hh (by omega)
      have hkz : (k : Int) < (n : Int) := by omega
      obtain ⟨c0, c1, c2⟩ := hc k hlt
      have hm := HQ.out k hlt
      have HX : Hid ((T.getD k nm0).s ≠ s → ∀ i, i < k + 1 → (T.getD i nm0).s ≠ s) := fun h i hi => by
        by_cases e : i = k
        · subst e; exact h
        · exact HP.out i (by omega)
      clear hc hh
      generalize T.getD k nm0 = x at c0 c1 c2 hm HX
      obtain ⟨xs, xr, xa, xb, xo, xc, xQ⟩ := x
      simp only at c0 c1 c2 HX
      by_cases hx : xs = s
      · subst hx
        have hss : (xs.toList == xs.toList) = true := by simp
        go_wp2
        refine bodyPost_ret (v := .tuple #[.agg #[.int .i64 xr, .slice xa xQ.length xc], .bool true]) (by simp [results, Tryz.results59, go_sem, z0, z1]) rfl ⟨?_, .inl ⟨_, hm, rfl, rfl⟩⟩
        repeat (first | with_reducible exact B1 | refine Vl.bset ?_ (by simp <;> omega))
      · have hss : (xs.toList == s.toList) = false := by
          rw [beq_eq_false_iff_ne]
          intro e; rw [ByteArray.toList_eq, ByteArray.toList_eq] at e; exact hx (Go.WideShapes.bytes_inj e)
        have HY : Hid (∀ i, i < k + 1 → (T.getD i nm0).s ≠ s) := HX.out hx
        clear hx
        go_wp2
        go_roundw
        case rel => exact ⟨k + 1, by omega, by go_num, (by first | rfl | trivial), HY.out⟩
        case measure => simp [intOf]; omega
    · have he : k = n := by omega
      subst he
      go_wp2
      refine bodyPost_ret (v := .tuple #[.agg #[.int .i64 0, .slice none 0 0], .bool false]) (by simp [results, Tryz.results59, go_sem, z0, z1]) rfl ⟨?_, .inr ⟨fun x hx e => ?_, rfl⟩⟩
      · repeat (first | with_reducible exact B1 | refine Vl.bset ?_ (by simp <;> omega))
      · obtain ⟨i, hi, ex⟩ := HE.out x hx
        exact HP.out i hi (by rw [ex]; exact e)

end Go.Proofs.YtkpchlojapkimaaGreat.Mp

namespace Go.Proofs.YtkpchlojapkimaaGreat.St
set_option maxRecDepth 8000
set_option linter.unusedSimpArgs false
set_option linter.unusedVariables false
open Go Go.ChangeShapes Go.WideShapes Go.RowKit
open Num Word Pl Rp
open Rl (Rm rm0 said)

theorem kN_shift (T : List Nm) (k0 : Nat) : ∀ i, kN T k0 i + 1 = kN T 1 i + k0
  | 0 => by simp only [kN]; omega
  | i + 1 => by have := kN_shift T k0 i; simp only [kN]; omega
/-- The named relations that are copied so far. -/
structure CopiedR (w : World) (g : Nat) (P : List Nm) : Prop where
  each : ∀ x ∈ P, x.o = 0 ∧ (∃ lo hi, g < lo ∧ hi ≤ w.heap.size ∧ Rl.Own w lo hi x.a x.b x.Q) ∧ x.s.size ≤ maxLen ∧ x.Q.length ≤ x.c
  diff : P.Pairwise fun x y => ∀ r ∈ x.Q, ∀ q ∈ y.Q, r.l.length ≠ 0 → q.l.length ≠ 0 → r.b ≠ q.b
theorem CopiedR.keep {w w' : World} {g : Nat} {P : List Nm} (h : CopiedR w g P) (hk : ∀ x, g < x → x < w.heap.size → w'.heap[x]? = w.heap[x]?) (hs : w.heap.size ≤ w'.heap.size) : CopiedR w' g P :=
  ⟨fun x hx => by obtain ⟨e, ⟨lo, hi, h1, h2, h3⟩, h4⟩ := h.each x hx; exact ⟨e, ⟨lo, hi, h1, by omega, h3.keep fun y hy hy' => hk y (by omega) hy'⟩, h4⟩, h.diff⟩
/-- All relations of the list have room for what they hold. -/
def Rooms (T : List Nm) : Prop := ∀ i, i < T.length → (T.getD i nm0).Q.length ≤ (T.getD i nm0).c
theorem Rooms.mem {T : List Nm} (h : Rooms T) : ∀ x ∈ T, x.Q.length ≤ x.c := fun x hx => by
  obtain ⟨i, hi, e⟩ := List.getElem_of_mem hx
  have := h i hi
  rw [show T.getD i nm0 = x by simpa [List.getD, hi] using e] at this
  exact this
set_option maxHeartbeats 1000000 in
theorem toNs_room (a : Option Addr) (b off cap : Nat) (T : List Nm) (w : World) (h : Rd w a b off T) :
    Calls Tryz.prog 61 #[.slice a T.length cap] w fun e w' => e = .returned (.slice (some ⟨w.heap.size, 0, none⟩) T.length T.length) ∧ Below w.heap.size w w' ∧ ∃ P, Own w' w.heap.size w'.heap.size (some ⟨w.heap.size, 0, none⟩) w.heap.size P ∧ told P = told T ∧ P.length = T.length ∧ Rooms P := by
  obtain ⟨hh, hc, ho, hs, hst⟩ := h
  obtain ⟨n, hn⟩ : ∃ n, n = T.length := ⟨_, rfl⟩
  have hmk := make3 n (by omega)
  rw [← hn] at hh hc ho hs hst ⊢
  have HN : Hid (n = T.length) := hn
  clear hn
  go_enter Tryz.func61, Tryz.ntmps61
  go_wp2
  clear hmk
  go_loopw [4] (fun i wr => ∃ P : List Nm, P.length ≤ n ∧ i = .int .i64 (P.length : Int) ∧ Below w.heap.size w wr ∧ wr.rowIs w.heap.size 69 (n * 3) (flat3 P) ∧ CopiedR wr w.heap.size P ∧ told P = (told T).take P.length) (fun i _ => n - (intOf i).toNat)
  case atStart => exact ⟨[], Nat.zero_le _, rfl, (Below.refl _ _).alloc (Nat.le_refl _) _, made3 w n, ⟨fun r hr => by simp at hr, List.Pairwise.nil⟩, rfl⟩
  case round =>
    obtain ⟨P, hk, rfl, hbel, hrow, hcp, hsd⟩ := hrel
    have HS : Hid (told P = (told T).take P.length) := hsd
    clear hsd
    by_cases hlt : P.length < n
    · obtain rfl := hh (by omega)
      have hkz : (P.length : Int) < (n : Int) := by omega
      obtain ⟨c0, c1, c2⟩ := At3.of (hc P.length hlt) hbel (hc P.length hlt).lt
      have o1 := Rl.Rd.below (ho P.length hlt) hbel
      have hst1 := hst P.length hlt
      have hlw := hrow.lt
      have HT : Hid (∀ r : Nm, r.l = (T.getD P.length nm0).l → told (P ++ [r]) = (told T).take (P ++ [r]).length) := fun r hr => take_told HS.out (by have := HN.out; omega) hr
      clear hc ho hh HS hst
      generalize T.getD P.length nm0 = x at c0 c1 c2 o1 HT hst1
      obtain ⟨xs, xr, xa, xb, xo, xc, xQ⟩ := x
      simp only [Nm.l] at c0 c1 c2 o1 HT hst1
      obtain ⟨k, hk1⟩ : ∃ k, k = P.length := ⟨_, rfl⟩
      have HK : Hid (k = P.length) := hk1
      have hz := flat3_at P
      rw [← hk1] at c0 c1 c2 hkz hlt hk hz ⊢
      clear hk1
      obtain ⟨z0, z1, z2⟩ := hz
      have cpl : ∀ x ∈ P, ∀ r ∈ x.Q, r.l.length ≠ 0 → r.b < wr.heap.size := fun x hx r hr h0 => by
        obtain ⟨_, ⟨lo, hi, _, h2, h3⟩, _⟩ := hcp.each x hx
        exact (h3.each r hr h0).2.2.2.lt
      go_wp2_with (go_at_call 114; refine (toN_any _ _ _ _ _ _ _ _ o1).mono ?_; rintro e w1 ⟨g, X, rfl, hb, hm, hX⟩; have HX : Hid (said X = said xQ) := hX; clear hX; replace hrow := hrow.of_block (hb.block _ hlw); replace hbel := Rw.next hbel hb; have hb1 := hb.size; replace hcp := hcp.keep (fun x _ hx => hb.block x hx) hb1; clear hb; have g0 := (hrow.cell (i := k * 3) (by omega)).trans (congrArg some z0); have g1 := (hrow.cell (i := k * 3 + 1) (by omega)).trans (congrArg some z1); have g2 := (hrow.cell (i := k * 3 + 2) (by omega)).trans (congrArg some z2); have f0 := hrow.frozen (k * 3); have f1 := hrow.frozen (k * 3 + 1); have f2 := hrow.frozen (k * 3 + 2))
      go_roundw
      case rel =>
        have hk2 := HK.out
        subst hk2
        refine ⟨P ++ [⟨xs, xr, some ⟨g, 0, none⟩, g, 0, X.length, X⟩], by simp; omega, by simp only [List.length_append, List.length_singleton]; go_num, ((hbel.setCell (by simp) _).setCell (by simp) _).setCell (by simp) _, ?_, ?_, HT.out _ (by simp only [Prod.mk.injEq, true_and]; exact HX.out)⟩
        · exact flat3_step (x := ⟨xs, xr, some ⟨g, 0, none⟩, g, 0, X.length, X⟩) hrow
        · have hk3 : ∀ (u0 u1 u2 : Value) (p0 p1 p2 : Nat) x, w.heap.size < x → (((w1.setCell ⟨w.heap.size, p0, none⟩ u0).setCell ⟨w.heap.size, p1, none⟩ u1).setCell ⟨w.heap.size, p2, none⟩ u2).heap[x]? = w1.heap[x]? := fun u0 u1 u2 p0 p1 p2 x hx => by
            rw [Below.heap_setCell _ _ _ _ (by simp; omega), Below.heap_setCell _ _ _ _ (by simp; omega), Below.heap_setCell _ _ _ _ (by simp; omega)]
          refine ⟨fun x hx => ?_, ?_⟩
          · rcases List.mem_append.1 hx with hx | hx
            · exact (hcp.keep (fun x hx _ => hk3 _ _ _ _ _ _ x hx) (by simp)).each x hx
            · obtain rfl := List.mem_singleton.1 hx
              exact ⟨rfl, ⟨wr.heap.size + 1, w1.heap.size, by omega, by simp, hm.keep fun y hy _ => hk3 _ _ _ _ _ _ y (by omega)⟩, hst1, Nat.le_refl _⟩
          · rw [List.pairwise_append]
            refine ⟨hcp.diff, List.pairwise_singleton _ _, fun x hx y hy r hr q hq h0 h0' => ?_⟩
            obtain rfl := List.mem_singleton.1 hy
            have u1 := cpl x hx r hr h0
            have u2 := (hm.each q hq h0').2.1
            omega
      case measure => have := HK.out; simp [intOf]; omega
    · have he : P.length = n := by omega
      have hkz : ¬ (P.length : Int) < (n : Int) := by omega
      go_wp2
      go_ret
      have hs1 : told P = told T := by rw [HS.out, he, HN.out, ← told_len T, List.take_length]
      refine ⟨rfl, hbel, P, ⟨⟨fun _ => rfl, fun i hi => ⟨?_, ?_, ?_⟩, fun i hi => ?_, by omega, fun i hi => (hcp.each _ (mem_at hi)).2.2.1⟩, .inr ⟨Nat.le_refl _, ?_⟩, fun x hx => ?_, hcp.diff⟩, hs1, he, fun i hi => (hcp.each _ (mem_at hi)).2.2.2⟩
      · rw [← flat30, Nat.zero_add]; exact hrow.cell (by omega)
      · rw [← flat31, Nat.zero_add]; exact hrow.cell (by omega)
      · rw [← flat32, Nat.zero_add]; exact hrow.cell (by omega)
      · obtain ⟨e1, ⟨lo, hi', _, _, e4⟩, _⟩ := hcp.each _ (mem_at hi)
        unfold Nm.Ok
        rw [e1]; exact e4.rd
      · obtain ⟨cs, h1, _⟩ := hrow
        exact ⟨cs, h1⟩
      · obtain ⟨e1, ⟨lo, hi', e2, e3, e4⟩, _⟩ := hcp.each x hx
        exact ⟨e1, e4.mono (by omega) e3⟩

set_option maxHeartbeats 1000000 in
theorem toSt_room (a : Option Addr) (b off cap : Nat) (T : List Nm) (w : World) (h : Rd w a b off T) :
    Calls Tryz.prog 20 #[.agg #[.slice a T.length cap]] w fun e w' => ∃ g P, e = .returned (.agg #[.slice (some ⟨g, 0, none⟩) P.length P.length]) ∧ Below w.heap.size w w' ∧ Own w' w.heap.size w'.heap.size (some ⟨g, 0, none⟩) g P ∧ told P = told T ∧ Rooms P := by
  obtain ⟨W1, hW1⟩ : ∃ W1, W1 = ((w.alloc (.cells #[.slice a T.length cap] 44)).alloc (.cells #[.slice none 0 0] 25)).alloc (.cells #[.slice none 0 0] 25) := ⟨_, rfl⟩
  have B1 : Below w.heap.size w W1 := by subst hW1; exact Rw.next (Rw.next (below_alloc1 _ _) (below_alloc1 _ _)) (below_alloc1 _ _)
  have k1 : W1.heap[w.heap.size + 1]? = some (.cells #[.slice none 0 0] 25 (0, 0)) := by subst hW1; rw [at_old (by simp), at_new (by simp)]
  have k2 : W1.heap[w.heap.size + 1 + 1]? = some (.cells #[.slice none 0 0] 25 (0, 0)) := by subst hW1; exact at_new (by simp)
  have r1 := h.below B1
  have s1 := blk_lt k2
  go_enter Tryz.func20, Tryz.ntmps20
  go_wp2_with (go_at_call 61; rw [← hW1]; clear hW1; refine (toNs_room _ _ _ _ _ _ r1).mono ?_; rintro e wa ⟨rfl, ba, P, hm, hsd, hpl, hrm⟩; replace k1 := (ba.block _ (blk_lt k1)).trans k1; replace k2 := (ba.block _ (blk_lt k2)).trans k2; have p0 := one k1; have q0 := one k2; have f1 := Vl.free k1; have f2 := Vl.free k2; have HP : Hid (P.length = T.length) := hpl; have HD : Hid (told P = told T) := hsd; clear hpl hsd)
  refine bodyPost_ret (v := .agg #[.slice (some ⟨W1.heap.size, 0, none⟩) T.length T.length]) (by simp [results, Tryz.results20, go_sem, p0]) rfl ⟨W1.heap.size, P, by rw [HP.out], ?_, ?_, HD.out, hrm⟩
  · have B2 := Rw.next B1 ba
    repeat (first | with_reducible exact B2 | refine Vl.bset ?_ (by simp <;> omega))
  · refine Own.mono (lo := W1.heap.size) (hi := wa.heap.size) ?_ (by omega) (by simp)
    repeat (first | with_reducible exact hm | refine Own.set ?_ (by simp; omega))

end Go.Proofs.YtkpchlojapkimaaGreat.St

namespace Go.Proofs.YtkpchlojapkimaaGreat.Ch
set_option maxRecDepth 8000
set_option linter.unusedSimpArgs false
set_option linter.unusedVariables false
open Go Go.ChangeShapes Go.WideShapes Go.RowKit
open Num Word Pl Rp
open Rl (Rm rm0 said)


set_option maxHeartbeats 4000000 in
theorem copyRel_any (ar : Int) (a : Option Addr) (b off cap : Nat) (Q : List Rm) (w : World) (h : Rl.Rd w a b off Q) (h4 : Q.length ≤ 100000) :
    Calls Tryz.prog 44 #[.agg #[.int .i64 ar, .slice a Q.length cap]] w (Rl.ResL w ar (said Q)) := by
  obtain ⟨W1, hW1⟩ : ∃ W1, W1 = (w.alloc (.cells #[.int .i64 ar, .slice a Q.length cap] 67)).alloc (.cells #[.int .i64 0, .slice none 0 0] 67) := ⟨_, rfl⟩
  have B1 : Below w.heap.size w W1 := by subst hW1; exact below_alloc2 _ _ _
  have k0 : W1.heap[w.heap.size]? = some (.cells #[.int .i64 ar, .slice a Q.length cap] 67 (0, 0)) := by subst hW1; rw [at_old (by simp), at_new rfl]
  have k1 : W1.heap[w.heap.size + 1]? = some (.cells #[.int .i64 0, .slice none 0 0] 67 (0, 0)) := by subst hW1; exact at_new (by simp)
  have r0 := h.below B1
  obtain ⟨p0, p1⟩ := two k0
  obtain ⟨z0, z1⟩ := two k1
  have f1 := Vl.free k1
  clear h
  go_enter Tryz.func44, Tryz.ntmps44
  go_wp2
  rw [← hW1]
  clear hW1
  go_region_held3 (fun w' => w'.cell? ⟨w.heap.size, 0, none⟩ = some (.int .i64 ar) ∧ w'.cell? ⟨w.heap.size, 1, none⟩ = some (.slice a Q.length cap)) (go_keep) (first
    | (go_at_call 99; clear p0 p1 z0 z1 f1; refine (Rl.rowSet_any _ (.int .i64 0) _ _ _ _).mono ?_; rintro e w2 ⟨rfl, hb⟩; replace hb := Rw.next ((Below.refl _ _).drew) hb; replace B1 := Rw.next B1 hb; replace k0 := (hb.block _ (blk_lt k0)).trans k0; replace k1 := (hb.block _ (blk_lt k1)).trans k1; replace r0 := r0.below hb; clear hb; obtain ⟨p0, p1⟩ := two k0; obtain ⟨z0, z1⟩ := two k1; have f1 := Vl.free k1)
    | (go_at_call 98; clear p0 p1 z0 z1 f1; refine (Rl.relOf_any _ _ _ _ _ _ _ r0 h4).mono ?_; rintro e w3 ⟨v, F, rfl, hot, sF, hb⟩; obtain ⟨ua, un, uc, rfl⟩ := hot.og.slice; replace B1 := Rw.next B1 hb; replace k0 := (hb.block _ (blk_lt k0)).trans k0; have hs1 := blk_lt k1; replace k1 := (hb.block _ (blk_lt k1)).trans k1; have sb := hb.size; clear hb; obtain ⟨p0, p1⟩ := two k0; obtain ⟨z0, z1⟩ := two k1; have f1 := Vl.free k1; have HS : Hid (said F = said Q) := sF; clear sF))
  go_wp2
  have hs := B1.size
  refine bodyPost_ret (v := .agg #[.int .i64 ar, .slice ua un uc]) (by simp [results, Tryz.results44, go_sem, z0, z1]) rfl ⟨.slice ua un uc, F, rfl, ?_, HS.out, ?_⟩
  · refine Rl.OT.mono (B := w2.heap.size) ?_ (by omega)
    refine hot.keep fun z hz hzB => ?_
    repeat (first | rfl | refine (Below.heap_setCell _ _ _ _ (by simp; omega)).trans ?_)
  · repeat (first | with_reducible exact B1 | refine Vl.bset ?_ (by simp <;> omega))

end Go.Proofs.YtkpchlojapkimaaGreat.Ch

namespace Go.Proofs.YtkpchlojapkimaaGreat.Ch
set_option maxRecDepth 8000
set_option linter.unusedSimpArgs false
set_option linter.unusedVariables false
open Go Go.ChangeShapes Go.WideShapes Go.RowKit
open Num Word Pl Rp
open Rl (Rm rm0 said UseQ)
open St (own_keepU)

def cells5 (T : List Cm) : List Value := (List.range (T.length * 5)).map (flat5 T)
theorem cells5_len (T : List Cm) : (cells5 T).length = T.length * 5 := by simp [cells5]
theorem cells5_at (T : List Cm) {j : Nat} (h : j < T.length * 5) : (cells5 T)[j]? = some (flat5 T j) := by simp [cells5, h]
theorem flat5_app {T : List Cm} {x : Cm} {j : Nat} (h : j < T.length * 5) : flat5 (T ++ [x]) j = flat5 T j := by
  unfold flat5
  rw [getD_app, if_neg (by omega)]
theorem cells5_app (T : List Cm) (x : Cm) : cells5 (T ++ [x]) = cells5 T ++ [.string x.s, .int .i64 x.p.ar, .slice x.p.a x.p.Q.length x.p.c, .int .i64 x.m.ar, .slice x.m.a x.m.Q.length x.m.c] := by
  have hx : (T ++ [x]).getD T.length cm0 = x := by rw [getD_app, if_pos rfl]
  have e0 := flat50 (T ++ [x]) T.length
  have e1 := flat51 (T ++ [x]) T.length
  have e2 := flat52 (T ++ [x]) T.length
  have e3 := flat53 (T ++ [x]) T.length
  have e4 := flat54 (T ++ [x]) T.length
  rw [hx] at e0 e1 e2 e3 e4
  have el : (T ++ [x]).length * 5 = T.length * 5 + 1 + 1 + 1 + 1 + 1 := by simp; omega
  unfold cells5
  rw [el, List.range_succ, List.range_succ, List.range_succ, List.range_succ, List.range_succ]
  simp only [List.map_append, List.map_cons, List.map_nil, List.append_assoc, List.cons_append, List.nil_append]
  rw [e0, e1, e2, e3, e4]
  congr 1
  refine List.map_congr_left fun j hj => flat5_app ?_
  simpa using hj

/-- Changes of the call's own, in a list that may grow. -/
structure OD (w : World) (B : Nat) (v : Value) (T : List Cm) : Prop where
  own : w.ownsRow B 71 5 v T.length (cells5 T)
  each : ∀ x ∈ rels T, x.o = 0 ∧ (∃ hi, hi ≤ w.heap.size ∧ Rl.Own w B hi x.a x.b x.Q) ∧ x.Q.length ≤ x.c
  str : ∀ x ∈ T, x.s.size ≤ maxLen
  diff : (rels T).Pairwise Far
theorem OD.nil (w : World) (B : Nat) : OD w B (.slice none 0 0) [] := ⟨by simpa [cells5] using World.ownsRow_nil w B 71 5, fun _ h => by simp [rels] at h, fun _ h => by simp at h, List.Pairwise.nil⟩
theorem OD.lt {w : World} {B : Nat} {v : Value} {T : List Cm} (h : OD w B v T) {k : Nat} (hk : v.ownBlock = some k) : B ≤ k ∧ k < w.heap.size := h.own.lt k hk
theorem OD.slice {w : World} {B : Nat} {v : Value} {T : List Cm} (h : OD w B v T) : ∃ a n c, v = .slice a n c := by
  rcases h.own.2 with ⟨e, e2⟩ | ⟨g, cap, cur, e, _⟩
  · exact ⟨_, _, _, e⟩
  · exact ⟨_, _, _, e⟩
theorem OD.keep {w w' : World} {B : Nat} {v : Value} {T : List Cm} (h : OD w B v T) (hk : ∀ x, x < w.heap.size → B ≤ x → w'.heap[x]? = w.heap[x]?) (hs : w.heap.size ≤ w'.heap.size) : OD w' B v T := by
  refine ⟨⟨h.own.1, ?_⟩, fun x hx => ?_, h.str, h.diff⟩
  · rcases h.own.2 with h0 | ⟨g, cap, cur, rfl, hb, hg, rest⟩
    · exact .inl h0
    · exact .inr ⟨g, cap, cur, rfl, hb, (hk g (blk_lt hg) hb).trans hg, rest⟩
  · obtain ⟨e, ⟨hi, h1, h2⟩, h3⟩ := h.each x hx
    exact ⟨e, ⟨hi, by omega, h2.keep fun y hy hy' => hk y hy' hy⟩, h3⟩
theorem OD.below {w w' : World} {B : Nat} {v : Value} {T : List Cm} (h : OD w B v T) (hb : Below w.heap.size w w') : OD w' B v T := h.keep (fun x hx _ => hb.block x hx) hb.size
theorem OD.mono {w : World} {B B' : Nat} {v : Value} {T : List Cm} (h : OD w B v T) (hB : B' ≤ B) : OD w B' v T := by
  refine ⟨⟨h.own.1, ?_⟩, fun x hx => ?_, h.str, h.diff⟩
  · rcases h.own.2 with h0 | ⟨g, cap, cur, rfl, hb, rest⟩
    · exact .inl h0
    · exact .inr ⟨g, cap, cur, rfl, by omega, rest⟩
  · obtain ⟨e, ⟨hi, h1, h2⟩, h3⟩ := h.each x hx
    exact ⟨e, ⟨hi, h1, h2.mono hB (Nat.le_refl _)⟩, h3⟩
theorem own5_ne {w : World} {B n x : Nat} {v : Value} {xs : List Value} (h : w.ownsRow B 71 5 v n xs) {cs : Array Value} {t : TypeId} {fr : Nat × Nat} (k : w.heap[x]? = some (.cells cs t fr)) (ht : t ≠ 71 := by decide) : some x ≠ v.ownBlock := by
  intro e
  rcases h.2 with ⟨rfl, _⟩ | ⟨g1, cap, cur, rfl, _, h1, _⟩
  · cases e
  · simp only [Value.ownBlock, Option.some.injEq] at e
    subst e
    rw [k] at h1
    simp only [Option.some.injEq, Obj.cells.injEq] at h1
    exact ht h1.2.1
theorem rel_kept {w w' : World} {B n lo hi b : Nat} {v : Value} {xs : List Value} {a : Option Addr} {Q : List Rm} (h : Rl.Own w lo hi a b Q) (ho : w.ownsRow B 71 5 v n xs) (hg : w.grownBy w' v.ownBlock) : Rl.Own w' lo hi a b Q := by
  refine own_keepU h (fun h0 => ?_) (fun x ⟨r, hr, h0, e⟩ => ?_)
  · obtain ⟨_, cs, h2⟩ := h.blk.resolve_left h0
    exact hg.block _ (blk_lt h2) (own5_ne ho h2)
  · obtain ⟨_, _, _, cs, h2, _⟩ := h.each r hr h0
    rw [e]
    exact hg.block _ (blk_lt h2) (own5_ne ho h2)
/-- A change of the call's own from lo on. -/
structure New (w : World) (lo : Nat) (x : Cm) : Prop where
  p : x.p.o = 0 ∧ (∃ hi, hi ≤ w.heap.size ∧ Rl.Own w lo hi x.p.a x.p.b x.p.Q) ∧ x.p.Q.length ≤ x.p.c
  m : x.m.o = 0 ∧ (∃ hi, hi ≤ w.heap.size ∧ Rl.Own w lo hi x.m.a x.m.b x.m.Q) ∧ x.m.Q.length ≤ x.m.c
  far : Far x.p x.m
  str : x.s.size ≤ maxLen
theorem New.below {w w' : World} {lo : Nat} {x : Cm} (h : New w lo x) (hb : Below w.heap.size w w') : New w' lo x := by
  obtain ⟨⟨p1, ⟨ph, p2, p3⟩, p4⟩, ⟨m1, ⟨mh, m2, m3⟩, m4⟩, f, s⟩ := h
  exact ⟨⟨p1, ⟨ph, Nat.le_trans p2 hb.size, p3.below hb⟩, p4⟩, ⟨m1, ⟨mh, Nat.le_trans m2 hb.size, m3.below hb⟩, m4⟩, f, s⟩
theorem New.mono {w : World} {lo lo' : Nat} {x : Cm} (h : New w lo x) (hl : lo' ≤ lo) : New w lo' x := by
  obtain ⟨⟨p1, ⟨ph, p2, p3⟩, p4⟩, ⟨m1, ⟨mh, m2, m3⟩, m4⟩, f, s⟩ := h
  exact ⟨⟨p1, ⟨ph, p2, p3.mono hl (Nat.le_refl _)⟩, p4⟩, ⟨m1, ⟨mh, m2, m3.mono hl (Nat.le_refl _)⟩, m4⟩, f, s⟩
/-- One more change, at the end. -/
theorem OD.app {w0 w : World} {B G c : Nat} {v : Value} {T : List Cm} {x : Cm} (ty : TypeId) (h0 : OD w0 B v T) (hb : Below w0.heap.size w0 w) (hx : New w w0.heap.size x) (hB : B ≤ w0.heap.size)
    (hT : w.heap[G]? = some (.cells #[.string x.s, .int .i64 x.p.ar, .slice x.p.a x.p.Q.length x.p.c, .int .i64 x.m.ar, .slice x.m.a x.m.Q.length x.m.c] 71 (0, 0))) (hlen : T.length ≤ 100000) :
    ∃ v' w', (Builtin.append_ #[28, 28] ty #[v, .slice (some ⟨G, 0, none⟩) 1 c]).run Tryz.prog w = .ok v' w' ∧ OD w' B v' (T ++ [x]) ∧ w.grownBy w' v.ownBlock := by
  have h := h0.below hb
  obtain ⟨i, hi', hzz⟩ := Option.map_eq_some_iff.1 infoC
  simp only [Prod.mk.injEq] at hzz
  obtain ⟨hz, hs, hby⟩ := hzz
  obtain ⟨v', w', hrun, h1, h2, h3, h4⟩ := run_append_own_at (P := Tryz.prog) (w := w) B 28 ty 71 i (.agg #[.string ⟨#[]⟩, .int .i64 0, .slice none 0 0, .int .i64 0, .slice none 0 0]) 5 80 Tryz.underlying28 hi' hz hs hby rfl (by decide) v T.length (cells5 T) h.own ⟨G, 0, none⟩ 1 c [.string x.s, .int .i64 x.p.ar, .slice x.p.a x.p.Q.length x.p.c, .int .i64 x.m.ar, .slice x.m.a x.m.Q.length x.m.c] rfl
    (by
      intro j u hj
      have hj3 : j < 5 := by have := (List.getElem?_eq_some_iff.1 hj).1; simpa using this
      rw [add_eq]
      simp only [World.cell?, hT, Nat.zero_add]
      rcases (by omega : j = 0 ∨ j = 1 ∨ j = 2 ∨ j = 3 ∨ j = 4) with rfl | rfl | rfl | rfl | rfl <;> simpa using hj)
    (by intro u hu; simp at hu; rcases hu with rfl | rfl | rfl | rfl | rfl <;> rfl) (by unfold maxLen; omega) (by omega) (Nat.le_trans hB hb.size)
  have new : ∀ y, (y = x.p ∨ y = x.m) → y.o = 0 ∧ (∃ hi, hi ≤ w.heap.size ∧ Rl.Own w w0.heap.size hi y.a y.b y.Q) ∧ y.Q.length ≤ y.c := fun y hy => by
    rcases hy with rfl | rfl
    · exact hx.p
    · exact hx.m
  refine ⟨v', w', hrun, ⟨by rw [cells5_app]; simpa using h1, fun y hy => ?_, fun y hy => ?_, ?_⟩, h2⟩
  · rw [rels_app] at hy
    rcases List.mem_append.1 hy with hy | hy
    · obtain ⟨e, ⟨hi2, q1, q2⟩, q3⟩ := h.each y hy
      exact ⟨e, ⟨hi2, Nat.le_trans q1 h2.size, rel_kept q2 h.own h2⟩, q3⟩
    · simp only [List.mem_cons, List.not_mem_nil, or_false] at hy
      obtain ⟨e, ⟨hi2, q1, q2⟩, q3⟩ := new y hy
      exact ⟨e, ⟨hi2, Nat.le_trans q1 h2.size, rel_kept (q2.mono hB (Nat.le_refl _)) h.own h2⟩, q3⟩
  · rcases List.mem_append.1 hy with hy | hy
    · exact h.str y hy
    · obtain rfl := List.mem_singleton.1 hy
      exact hx.str
  · rw [rels_app, List.pairwise_append]
    refine ⟨h.diff, by simp only [List.pairwise_cons, List.mem_singleton, forall_eq, List.not_mem_nil, false_implies, implies_true, List.Pairwise.nil, and_true]; exact hx.far, fun y hy z hz r hr q hq hr0 hq0 e => ?_⟩
    simp only [List.mem_cons, List.not_mem_nil, or_false] at hz
    obtain ⟨_, ⟨hi2, q1, q2⟩, _⟩ := h0.each y hy
    obtain ⟨_, ⟨hi3, q3, q4⟩, _⟩ := new z hz
    have := (q2.each r hr hr0).2.2.1
    have := (q4.each q hq hq0).2.1
    omega
theorem OD.form {w : World} {B : Nat} {v : Value} {T : List Cm} (h : OD w B v T) (hs : T.length ≤ 4194304) : ∃ a g cap, v = .slice a T.length cap ∧ Own w B w.heap.size a g T ∧ Rooms T := by
  have hR : Rooms T := fun i hi => ⟨(h.each _ (mem_rels (mem_at hi)).1).2.2, (h.each _ (mem_rels (mem_at hi)).2).2.2⟩
  rcases h.own.2 with ⟨rfl, e⟩ | ⟨g, cap, cur, rfl, hb, hh, hn, _, hz, ht⟩
  · have : T = [] := List.eq_nil_of_length_eq_zero e
    subst this
    exact ⟨none, 0, 0, rfl, ⟨rd_nil _ _ _ _, .inl rfl, fun x hx => by simp [rels] at hx, List.Pairwise.nil⟩, hR⟩
  · have cell : ∀ j, j < T.length * 5 → w.cell? ⟨g, j, none⟩ = some (flat5 T j) := fun j hj => by
      have e : (cur.toList.take (T.length * 5))[j]? = (cells5 T)[j]? := by rw [ht]
      rw [List.getElem?_take, if_pos hj, cells5_at T hj] at e
      simp only [World.cell?, hh]
      rw [← Array.getElem?_toList]; exact e
    refine ⟨some ⟨g, 0, none⟩, g, cap, rfl, ⟨⟨fun _ => rfl, fun i hi => ⟨?_, ?_, ?_, ?_, ?_⟩, fun i hi => ⟨?_, ?_⟩, hs, fun i hi => h.str _ (mem_at hi)⟩, .inr ⟨hb, cur, hh⟩, fun x hx => ?_, h.diff⟩, hR⟩
    · rw [← flat50, Nat.zero_add]; exact cell _ (by omega)
    · rw [← flat51, Nat.zero_add]; exact cell _ (by omega)
    · rw [← flat52, Nat.zero_add]; exact cell _ (by omega)
    · rw [← flat53, Nat.zero_add]; exact cell _ (by omega)
    · rw [← flat54, Nat.zero_add]; exact cell _ (by omega)
    · obtain ⟨e, ⟨hi', q1, q2⟩, _⟩ := h.each _ (mem_rels (mem_at hi)).1
      rw [e]; exact q2.rd
    · obtain ⟨e, ⟨hi', q1, q2⟩, _⟩ := h.each _ (mem_rels (mem_at hi)).2
      rw [e]; exact q2.rd
    · obtain ⟨e, ⟨hi', q1, q2⟩, _⟩ := h.each x hx
      exact ⟨e, q2.mono (Nat.le_refl _) q1⟩
theorem exec_oneC {o : Oper} {a : Act} {w : World} {x : Operand} {u0 u1 u2 u3 u4 : Value} (ho : o.op = .buildSlice 28 1 #[(0, x)]) (hx : a.eval x = .agg #[u0, u1, u2, u3, u4]) : (execOp a.eval o).run Tryz.prog w = .ok (.value (.slice (some ⟨w.heap.size, 0, none⟩) 1 1)) (w.alloc (.cells #[u0, u1, u2, u3, u4] 71)) := by
  unfold execOp
  simp only [ho, List.map_toArray, List.map_cons, List.map_nil, hx]
  kernel_rfl
theorem OG.room {w : World} {B n cap : Nat} {a : Option Addr} {Q : List Rm} (h : Rl.OG w B (.slice a n cap) Q) : n ≤ cap := by
  rcases h.own.2 with ⟨e, h0⟩ | ⟨g, c, cur, e, _, _, hn, _⟩
  · simp only [Value.slice.injEq] at e; omega
  · simp only [Value.slice.injEq] at e; omega
theorem one_set {w : World} {g : Nat} {u v : Value} {t : TypeId} (h : w.heap[g]? = some (.cells #[u] t (0, 0))) : (w.setCell ⟨g, 0, none⟩ v).heap[g]? = some (.cells #[v] t (0, 0)) := by
  simp [World.setCell, Array.getElem?_modify, h]

end Go.Proofs.YtkpchlojapkimaaGreat.Ch

namespace Go.Proofs.YtkpchlojapkimaaGreat.Ch
set_option maxRecDepth 8000
set_option linter.unusedSimpArgs false
set_option linter.unusedVariables false
open Go Go.ChangeShapes Go.WideShapes Go.RowKit
open Num Word Pl Rp
open Rl (Rm rm0 said)

/-- What is put in and what is taken out, exchanged. -/
def backL (T : List CL) : List CL := T.map fun x => (x.1, x.2.2, x.2.1)
def BA (T M : List CL) : Prop := M = if deltaB T = true then backL T else []
/-- A delta of the call's own is handed back. -/
def ResDl (w : World) (M : List CL) (e : Ending) (w' : World) : Prop := ∃ v F, e = .returned (.agg #[v]) ∧ OD w' w.heap.size v F ∧ told F = M ∧ Below w.heap.size w w'
theorem back_next {T : List Cm} {k : Nat} (h : k < T.length) : backL ((told T).take (k + 1)) = backL ((told T).take k) ++ [((T.getD k cm0).s, (T.getD k cm0).m.l, (T.getD k cm0).p.l)] := by
  have h2 : k < (told T).length := by rw [told_len]; exact h
  rw [List.take_add_one, List.getElem?_eq_getElem h2]
  have e : (told T)[k] = (T.getD k cm0).l := by rw [← told_at h]; simp [List.getD, h2]
  simp [backL, e, Cm.l]
theorem delta_parts {T : List Cm} (h : deltaB (told T) = true) : T.length ≤ 24 ∧ ∀ i, i < T.length → changeB (T.getD i cm0).l = true := by
  unfold deltaB at h
  simp only [Bool.and_eq_true, decide_eq_true_eq, told_len] at h
  refine ⟨h.1.1, fun i hi => ?_⟩
  have := List.all_eq_true.1 h.1.2 ((told T).getD i cl0) (by rw [← told_len] at hi; simp [List.getD, hi])
  rw [told_at hi] at this; exact this
theorem change_parts {x : CL} (h : changeB x = true) : RelP x.2.1.1 x.2.1.2 ∧ RelP x.2.1.1 x.2.2.2 ∧ x.2.1.1 = x.2.2.1 := by
  unfold changeB apartB at h
  simp only [Bool.and_eq_true] at h
  exact two_parts h.2.1
theorem change_few {x : Cm} (h : changeB x.l = true) : x.p.Q.length ≤ 300 ∧ x.m.Q.length ≤ 300 := by
  obtain ⟨h1, h2, _⟩ := change_parts h
  have a := h1.few
  have b := h2.few
  simp only [Cm.l, Re.l, Rl.said_len] at a b
  exact ⟨a, b⟩

set_option maxHeartbeats 8000000 in
theorem backI_any (a : Option Addr) (b off cap : Nat) (T : List Cm) (w : World) (h : Rd w a b off T) (hm : Rooms T) (M : List CL) (hM : BA (told T) M) :
    Calls Tryz.prog 12 #[.agg #[.slice a T.length cap]] w (ResDl w M) := by
  obtain ⟨W1, hW1⟩ : ∃ W1, W1 = (w.alloc (.cells #[.slice a T.length cap] 30)).alloc (.cells #[.slice none 0 0] 30) := ⟨_, rfl⟩
  have B0 : Below w.heap.size w W1 := by subst hW1; exact below_alloc2 _ _ _
  have kR : W1.heap[w.heap.size + 1]? = some (.cells #[.slice none 0 0] 30 (0, 0)) := by subst hW1; exact at_new (by simp)
  have kD : W1.heap[w.heap.size]? = some (.cells #[.slice a T.length cap] 30 (0, 0)) := by subst hW1; rw [at_old (by simp), at_new rfl]
  have hO := okI_any a b off cap T W1 (h.below B0) hm
  unfold BA at hM
  cases hd : deltaB (told T) with
  | false =>
    rw [hd] at hO hM
    rw [if_neg (by simp)] at hM
    go_enter Tryz.func12, Tryz.ntmps12
    go_wp2_with (go_at_call 14; rw [← hW1]; clear hW1; refine hO.mono ?_; rintro e w1 ⟨rfl, hb⟩; replace B0 := Rw.next B0 hb; replace kR := (hb.block _ (blk_lt kR)).trans kR; replace kD := (hb.block _ (blk_lt kD)).trans kD; have r0 := Pl.one kR; have fR := Vl.free kR; have d0 := Pl.one kD; have ld := blk_lt kD; clear hb)
    refine bodyPost_ret (v := .agg #[.slice none 0 0]) (by simp [results, Tryz.results12, go_sem, r0]) rfl ⟨_, [], rfl, OD.nil _ _, by rw [hM]; rfl, ?_⟩
    repeat (first | with_reducible exact B0 | refine Vl.bset ?_ (by simp <;> omega))
  | true =>
    rw [hd] at hO hM
    rw [if_pos rfl] at hM
    obtain ⟨hT24, hCh⟩ := delta_parts hd
    obtain ⟨hh, hc, ho, hs, hst⟩ := h
    have HM : Hid (M = backL (told T)) := hM
    have HTl : Hid ((told T).take T.length = told T) := by rw [← told_len T]; exact List.take_length
    have HTn0 : Hid (∀ k, k < T.length → backL ((told T).take (k + 1)) = backL ((told T).take k) ++ [((T.getD k cm0).s, (T.getD k cm0).m.l, (T.getD k cm0).p.l)]) := fun k hk => back_next hk
    clear hM hd
    obtain ⟨n, hn⟩ : ∃ n, n = T.length := ⟨_, rfl⟩
    rw [← hn] at hh hc ho hs hst hT24 hCh hO HTl HTn0 hW1 kD ⊢
    clear hn
    go_enter Tryz.func12, Tryz.ntmps12
    go_wp2_with (go_at_call 14; rw [← hW1]; clear hW1; refine hO.mono ?_; rintro e w1 ⟨rfl, hb⟩; replace B0 := Rw.next B0 hb; replace kR := (hb.block _ (blk_lt kR)).trans kR; replace kD := (hb.block _ (blk_lt kD)).trans kD; have r0 := Pl.one kR; have fR := Vl.free kR; have d0 := Pl.one kD; have ld := blk_lt kD; clear hb)
    obtain ⟨W3, hW3⟩ : ∃ W3, W3 = w1.alloc (.cells #[.slice none 0 0] 30) := ⟨_, rfl⟩
    obtain ⟨OB, hOB⟩ : ∃ OB, OB = w1.heap.size := ⟨_, rfl⟩
    have kO : W3.heap[OB]? = some (.cells #[.slice none 0 0] 30 (0, 0)) := by subst hW3 hOB; exact at_new rfl
    have hb3 : Below w1.heap.size w1 W3 := by subst hW3; exact below_alloc1 _ _
    have sB : OB < W3.heap.size := blk_lt kO
    have hRO : w.heap.size + 1 < OB := by rw [hOB]; exact blk_lt kR
    replace kR := (hb3.block _ (blk_lt kR)).trans kR
    replace B0 := Rw.next B0 hb3
    clear hb3
    obtain ⟨B, hB⟩ : ∃ B, B = W3.heap.size := ⟨_, rfl⟩
    have hBo : OB < B := by omega
    have hwo : w.heap.size ≤ OB := by omega
    have hB1 : B ≤ W3.heap.size := by omega
    rw [← hW3, ← hOB]
    clear hW3 hB hOB ld d0 r0 fR kD
    go_loopw [13] (fun i wr => ∃ (k : Nat) (v : Value) (F : List Cm), k ≤ n ∧ i = .int .i64 k ∧ wr.heap[OB]? = some (.cells #[v] 30 (0, 0)) ∧ OD wr B v F ∧ told F = backL ((told T).take k) ∧ F.length = k ∧ B ≤ wr.heap.size ∧ Below w.heap.size w wr ∧ wr.heap[w.heap.size + 1]? = some (.cells #[.slice none 0 0] 30 (0, 0))) (fun i _ => n - (intOf i).toNat)
    case atStart => exact ⟨0, _, [], Nat.zero_le _, rfl, kO, OD.nil _ _, rfl, rfl, hB1, B0, kR⟩
    case round =>
      obtain ⟨k, v, F, hk, rfl, kOr, hosr, hT, hFk, hBr, B1r, kRr⟩ := hrel
      have HT : Hid (told F = backL ((told T).take k)) := hT
      clear hT
      by_cases hlt : k < n
      · obtain rfl := hh (by omega)
        have hkz : (k : Int) < (n : Int) := by omega
        obtain ⟨A0, A1, A2, A3, A4⟩ := At5.of (hc k hlt) B1r (hc k hlt).lt
        have o1 := Rl.Rd.below (ho k hlt).1 B1r
        have o2 := Rl.Rd.below (ho k hlt).2 B1r
        have hnm := hst k hlt
        have hfew := change_few (hCh k hlt)
        have HTn : Hid (backL ((told T).take (k + 1)) = backL ((told T).take k) ++ [((T.getD k cm0).s, (T.getD k cm0).m.l, (T.getD k cm0).p.l)]) := HTn0.out k hlt
        clear hc ho hh hst hCh HTn0
        generalize T.getD k cm0 = x at A0 A1 A2 A3 A4 o1 o2 hnm hfew HTn
        obtain ⟨xs, ⟨xr, xa, xb, xo, xc, xQ⟩, ⟨yr, ya, yb, yo, yc, yQ⟩⟩ := x
        simp only [Re.l] at A0 A1 A2 A3 A4 o1 o2 hnm hfew HTn
        obtain ⟨hf1, hf2⟩ := hfew
        have hF1of : ∀ F1 : List Rm, said F1 = said yQ → F1.length ≤ 4194304 := fun F1 h => by rw [← Rl.said_len, h, Rl.said_len]; omega
        have hF2of : ∀ F1 : List Rm, said F1 = said xQ → F1.length ≤ 4194304 := fun F1 h => by rw [← Rl.said_len, h, Rl.said_len]; omega
        obtain ⟨W5, hW5⟩ : ∃ W5, W5 = wr.alloc (.cells #[.string xs, .int .i64 xr, .slice xa xQ.length xc, .int .i64 yr, .slice ya yQ.length yc] 71) := ⟨_, rfl⟩
        have b5 : Below wr.heap.size wr W5 := by subst hW5; exact below_alloc1 _ _
        obtain ⟨g, hg⟩ : ∃ g, g = wr.heap.size := ⟨_, rfl⟩
        have kg : W5.heap[g]? = some (.cells #[.string xs, .int .i64 xr, .slice xa xQ.length xc, .int .i64 yr, .slice ya yQ.length yc] 71 (0, 0)) := by subst hW5 hg; exact at_new rfl
        have kO := (b5.block _ (blk_lt kOr)).trans kOr
        have kR5 := (b5.block _ (blk_lt kRr)).trans kRr
        have hos := hosr.below b5
        have ok1 := o2.below b5
        have ok2 := o1.below b5
        have B1 := Rw.next B1r b5
        have hBs : B ≤ W5.heap.size := Nat.le_trans hBr b5.size
        have hgo : g ≠ OB := fun e => by have := blk_lt kOr; omega
        have hSt : ∀ w', Rl.Stab W5 OB v w' → w'.cell? ⟨g, 0, none⟩ = some (.string xs) ∧ w'.cell? ⟨g, 1, none⟩ = some (.int .i64 xr) ∧ w'.cell? ⟨g, 2, none⟩ = some (.slice xa xQ.length xc) ∧ w'.cell? ⟨g, 3, none⟩ = some (.int .i64 yr) ∧ w'.cell? ⟨g, 4, none⟩ = some (.slice ya yQ.length yc) := fun w' hw => five ((hw.block g (blk_lt kg) hgo (fun e => by have := (hosr.lt e.symm).2; omega)).trans kg)
        have hFl : F.length ≤ 100000 := by omega
        have hw5 := blk_lt kR5
        go_wp2
        rw [← hW5, ← hg]
        clear hW5 kOr kRr hosr o1 o2 B1r b5 kg A0 A1 A2 A3 A4 hgo hg
        refine wp_region_held_drew (S := Rl.Stab W5 (OB) v) (by kernel_rfl) (Rl.Stab.refl _ _ _) (fun hHeld => ?_)
        refine Hn.take (i := 0) (d := some 17) (v := .pointer (some ⟨OB, 0, none⟩)) rfl (by kernel_rfl) (by kernel_rfl) (by kernel_rfl) (by kernel_rfl) (fun _ _ _ h => h) (Or.inl ⟨by rfl, by intro w hSw; go_simp⟩) hHeld ?_
        simp only [Act.put, List.setIfInBounds_toArray, List.set_cons_zero, List.set_cons_succ]
        refine Hn.take (i := 2) (d := some 19) (v := .pointer (some ⟨g, 0, none⟩)) rfl (by kernel_rfl) (by kernel_rfl) (by kernel_rfl) (by kernel_rfl) (fun _ _ _ h => h) (Or.inl ⟨by rfl, by intro w hSw; go_simp⟩) hHeld ?_
        simp only [Act.put, List.setIfInBounds_toArray, List.set_cons_zero, List.set_cons_succ]
        refine Hn.take (i := 3) (d := some 20) (v := .string xs) rfl (by kernel_rfl) (by kernel_rfl) (by kernel_rfl) (by kernel_rfl) (fun _ _ _ h => h) (Or.inl ⟨by rfl, by intro w hSw; obtain ⟨c0, c1, c2, c3, c4⟩ := hSt w hSw; go_simp⟩) hHeld ?_
        simp only [Act.put, List.setIfInBounds_toArray, List.set_cons_zero, List.set_cons_succ]
        refine Hn.take (i := 4) (d := some 21) (v := .pointer (some ⟨g, 3, none⟩)) rfl (by kernel_rfl) (by kernel_rfl) (by kernel_rfl) (by kernel_rfl) (fun _ _ _ h => h) (Or.inl ⟨by rfl, by intro w hSw; go_simp⟩) hHeld ?_
        simp only [Act.put, List.setIfInBounds_toArray, List.set_cons_zero, List.set_cons_succ]
        refine Hn.take (i := 5) (d := some 22) (v := .agg #[.int .i64 yr, .slice ya yQ.length yc]) rfl (by kernel_rfl) (by kernel_rfl) (by kernel_rfl) (by kernel_rfl) (fun _ _ _ h => h) (Or.inl ⟨by rfl, by intro w hSw; obtain ⟨c0, c1, c2, c3, c4⟩ := hSt w hSw; go_simp⟩) hHeld ?_
        simp only [Act.put, List.setIfInBounds_toArray, List.set_cons_zero, List.set_cons_succ]
        refine Hn.take (i := 7) (d := some 24) (v := .pointer (some ⟨g, 1, none⟩)) rfl (by kernel_rfl) (by kernel_rfl) (by kernel_rfl) (by kernel_rfl) (fun _ _ _ h => h) (Or.inl ⟨by rfl, by intro w hSw; go_simp⟩) hHeld ?_
        simp only [Act.put, List.setIfInBounds_toArray, List.set_cons_zero, List.set_cons_succ]
        refine Hn.take (i := 8) (d := some 25) (v := .agg #[.int .i64 xr, .slice xa xQ.length xc]) rfl (by kernel_rfl) (by kernel_rfl) (by kernel_rfl) (by kernel_rfl) (fun _ _ _ h => h) (Or.inl ⟨by rfl, by intro w hSw; obtain ⟨c0, c1, c2, c3, c4⟩ := hSt w hSw; go_simp⟩) hHeld ?_
        simp only [Act.put, List.setIfInBounds_toArray, List.set_cons_zero, List.set_cons_succ]
        have st : Rl.Stab W5 (OB) v (W5).drew := Rl.Stab.refl _ _ _
        have hos0 : OD (W5).drew B v F := hos.below ((Below.refl _ _).drew)
        have kO0 : (W5).drew.heap[OB]? = some (.cells #[v] 30 (0, 0)) := kO
        have ok1_0 := Rl.Rd.below ok1 ((Below.refl (W5).heap.size (W5)).drew)
        have ok2_0 := Rl.Rd.below ok2 ((Below.refl (W5).heap.size (W5)).drew)
        have B2 := Rw.next B1 ((Below.refl (W5).heap.size (W5)).drew)
        have sW : (W5).drew.heap.size = (W5).heap.size := rfl
        generalize (W5).drew = W at *
        refine wpAnyH_ready (rs := [1, 6]) (by kernel_rfl) (by simp) (Hn.readyRun (i := 1) rfl (by kernel_rfl) (some 18) (by kernel_rfl) (v := v) (w' := W) (by have o0 := Pl.one kO0; go_simp) st (fun hHeld => ?_) (Hn.call1 (i := 6) rfl (by rfl) 44 (.tmp 22) 67 (by kernel_rfl) 23 (by kernel_rfl) (.agg #[.int .i64 yr, .slice ya yQ.length yc]) (by kernel_rfl) (fun _ => rfl) (copyRel_any _ _ _ _ _ _ _ ok1_0 (by omega)) ?_ AllReadyH.nil))
        · simp only [Act.put, List.setIfInBounds_toArray, List.set_cons_zero, List.set_cons_succ]
          refine wpAnyH_ready (rs := [6]) (by kernel_rfl) (by simp) (Hn.call1 (i := 6) rfl (by rfl) 44 (.tmp 22) 67 (by kernel_rfl) 23 (by kernel_rfl) (.agg #[.int .i64 yr, .slice ya yQ.length yc]) (by kernel_rfl) (fun _ => rfl) (copyRel_any _ _ _ _ _ _ _ ok1_0 (by omega)) ?_ AllReadyH.nil)
          rintro e1 Wa ⟨v1, F1, rfl, hot1, hl1, hb⟩
          obtain ⟨ra1, rg1, rc1, hv1, hr1⟩ := hot1.form (hF1of F1 hl1)
          subst hv1
          have hm1 := OG.room hot1.og
          replace st := st.below hb
          replace kO0 := (hb.block _ (blk_lt kO0)).trans kO0
          replace B2 := Rw.next B2 hb
          have s1 := hb.size
          replace ok2_0 := ok2_0.below hb
          have hbc := hb
          clear hb
          refine ⟨_, rfl, st, fun hHeld => ?_⟩
          simp only [Act.put, List.setIfInBounds_toArray, List.set_cons_zero, List.set_cons_succ]
          refine wpAnyH_ready (rs := [9]) (by kernel_rfl) (by simp) (Hn.call1 (i := 9) rfl (by rfl) 44 (.tmp 25) 67 (by kernel_rfl) 26 (by kernel_rfl) (.agg #[.int .i64 xr, .slice xa xQ.length xc]) (by kernel_rfl) (fun _ => rfl) (copyRel_any _ _ _ _ _ _ _ ok2_0 (by omega)) ?_ AllReadyH.nil)
          rintro e2 Wc ⟨v2, F2, rfl, hot2, hl2, hb⟩
          obtain ⟨ra2, rg2, rc2, hv2, hr2⟩ := hot2.form (hF2of F2 hl2)
          subst hv2
          have hm2 := OG.room hot2.og
          replace st := st.below hb
          replace kO0 := (hb.block _ (blk_lt kO0)).trans kO0
          replace B2 := Rw.next B2 hb
          have s2 := hb.size
          replace hr1 := hr1.below hb
          replace hbc := Rw.next hbc hb
          clear hb
          refine ⟨_, rfl, st, fun hHeld => ?_⟩
          simp only [Act.put, List.setIfInBounds_toArray, List.set_cons_zero, List.set_cons_succ]
          refine Hn.take (i := 10) (d := some 27) (v := .agg #[.string xs, .int .i64 yr, .slice ra1 F1.length rc1, .int .i64 xr, .slice ra2 F2.length rc2]) rfl (by kernel_rfl) (by kernel_rfl) (by kernel_rfl) (by kernel_rfl) (fun _ _ _ h => h) (Or.inl ⟨by rfl, by intro w hSw; go_simp⟩) hHeld ?_
          simp only [Act.put, List.setIfInBounds_toArray, List.set_cons_zero, List.set_cons_succ]
          refine wpAnyH_ready (rs := [11]) (by kernel_rfl) (by simp) (Hn.readyRun (i := 11) rfl (by kernel_rfl) (some 28) (by kernel_rfl) (v := .slice (some ⟨Wc.heap.size, 0, none⟩) 1 1) (w' := Wc.alloc (.cells #[.string xs, .int .i64 yr, .slice ra1 F1.length rc1, .int .i64 xr, .slice ra2 F2.length rc2] 71)) (exec_oneC rfl (by kernel_rfl)) (st.below (below_alloc1 _ _)) (fun hHeld => ?_) AllReadyH.nil)
          simp only [Act.put, List.setIfInBounds_toArray, List.set_cons_zero, List.set_cons_succ]
          obtain ⟨Wd, hWd⟩ : ∃ Wd, Wd = Wc.alloc (.cells #[.string xs, .int .i64 yr, .slice ra1 F1.length rc1, .int .i64 xr, .slice ra2 F2.length rc2] 71) := ⟨_, rfl⟩
          rw [← hWd] at hHeld ⊢
          have hT : Wd.heap[Wc.heap.size]? = some (.cells #[.string xs, .int .i64 yr, .slice ra1 F1.length rc1, .int .i64 xr, .slice ra2 F2.length rc2] 71 (0, 0)) := by subst hWd; exact at_new rfl
          have hb : Below Wc.heap.size Wc Wd := by subst hWd; exact below_alloc1 _ _
          have s3 := hb.size
          replace st := st.below hb
          replace kO0 := (hb.block _ (blk_lt kO0)).trans kO0
          replace B2 := Rw.next B2 hb
          replace hr1 := hr1.below hb
          replace hr2 := hr2.below hb
          replace hbc := Rw.next hbc hb
          clear hb hWd
          have hnw : New Wd W.heap.size ⟨xs, ⟨yr, ra1, rg1, 0, rc1, F1⟩, ⟨xr, ra2, rg2, 0, rc2, F2⟩⟩ := ⟨⟨rfl, ⟨_, by omega, hr1⟩, hm1⟩, ⟨rfl, ⟨_, by omega, hr2.mono (by omega) (Nat.le_refl _)⟩, hm2⟩, fun r hr q hq h0 h0' => by have u1 := (hr1.each r hr h0).2.2.1; have u2 := (hr2.each q hq h0').2.1; omega, hnm⟩
          obtain ⟨v', Z, hrun, hosZ, hgr⟩ := hos0.app (x := ⟨xs, ⟨yr, ra1, rg1, 0, rc1, F1⟩, ⟨xr, ra2, rg2, 0, rc2, F2⟩⟩) (c := 1) 28 hbc hnw (by omega) hT hFl
          refine wpAnyH_ready (rs := [12]) (by kernel_rfl) (by simp) (Hn.readyRun (i := 12) rfl (by kernel_rfl) (some 29) (by kernel_rfl) (Hn.exec_app (.tmp 18) (.tmp 28) rfl (by kernel_rfl) (by kernel_rfl) hrun) (st.grown hgr) (fun hHeld => ?_) AllReadyH.nil)
          simp only [Act.put, List.setIfInBounds_toArray, List.set_cons_zero, List.set_cons_succ]
          replace st := st.grown hgr
          obtain ⟨va, vn, vc, hv⟩ := hosZ.slice
          subst hv
          have kOZ := (hgr.block _ (blk_lt kO0) (fun e => by have := (hos0.lt e.symm).1; omega)).trans kO0
          replace B2 := B2.grown hgr B2.size (fun k hk => by have := (hos0.lt hk).1; omega)
          have o0 := Pl.one kOZ
          have fO := Vl.free kOZ
          refine Hn.take (i := 13) (d := some 30) (v := .pointer (some ⟨OB, 0, none⟩)) rfl (by kernel_rfl) (by kernel_rfl) (by kernel_rfl) (by kernel_rfl) (fun _ _ _ h => h) (Or.inl ⟨by rfl, by intro w hSw; go_simp⟩) hHeld ?_
          simp only [Act.put, List.setIfInBounds_toArray, List.set_cons_zero, List.set_cons_succ]
          refine wpAnyH_ready (rs := [14]) (by kernel_rfl) (by simp) (Hn.readySkip (i := 14) rfl (by kernel_rfl) none (by kernel_rfl) (w' := Z.setCell ⟨OB, 0, none⟩ (.slice va vn vc)) (by go_simp) st.set (fun hHeld => ?_) AllReadyH.nil)
          simp only [Act.put, List.setIfInBounds_toArray, List.set_cons_zero, List.set_cons_succ]
          refine wpAnyH_done (by kernel_rfl) ?_ _
          have kO' : (Z.setCell ⟨OB, 0, none⟩ (.slice va vn vc)).heap[OB]? = some (.cells #[(.slice va vn vc)] 30 (0, 0)) := one_set kOZ
          have B1' : Below w.heap.size w (Z.setCell ⟨OB, 0, none⟩ (.slice va vn vc)) := Vl.bset B2 hwo
          have hos' : OD (Z.setCell ⟨OB, 0, none⟩ (.slice va vn vc)) B (.slice va vn vc) (F ++ [⟨xs, ⟨yr, ra1, rg1, 0, rc1, F1⟩, ⟨xr, ra2, rg2, 0, rc2, F2⟩⟩]) := hosZ.keep (fun x _ hx => Below.heap_setCell _ _ _ _ (by simp; omega)) (by simp)
          replace st : Rl.Stab W5 (OB) v (Z.setCell ⟨OB, 0, none⟩ (.slice va vn vc)) := st.set
          generalize Z.setCell ⟨OB, 0, none⟩ (.slice va vn vc) = Y9 at *
          go_wp2
          go_roundw
          case rel => exact ⟨k + 1, _, _, by omega, by go_num, kO', hos', by rw [told_app, HT.out, HTn.out]; simp only [Cm.l, Re.l, hl1, hl2], by simp only [List.length_append, List.length_singleton]; omega, Nat.le_trans hBs st.size, B1', (st.block _ (by omega) (by omega) (fun e => by have := (hos0.lt e.symm).1; omega)).trans kR5⟩
          case measure => simp [intOf]; omega
        · rintro e1 Wa ⟨v1, F1, rfl, hot1, hl1, hb⟩
          obtain ⟨ra1, rg1, rc1, hv1, hr1⟩ := hot1.form (hF1of F1 hl1)
          subst hv1
          have hm1 := OG.room hot1.og
          replace st := st.below hb
          replace kO0 := (hb.block _ (blk_lt kO0)).trans kO0
          replace B2 := Rw.next B2 hb
          have s1 := hb.size
          replace ok2_0 := ok2_0.below hb
          have hbc := hb
          clear hb
          refine ⟨_, rfl, st, fun hHeld => ?_⟩
          simp only [Act.put, List.setIfInBounds_toArray, List.set_cons_zero, List.set_cons_succ]
          refine wpAnyH_ready (rs := [1, 9]) (by kernel_rfl) (by simp) (Hn.readyRun (i := 1) rfl (by kernel_rfl) (some 18) (by kernel_rfl) (v := v) (w' := Wa) (by have o0 := Pl.one kO0; go_simp) st (fun hHeld => ?_) (Hn.call1 (i := 9) rfl (by rfl) 44 (.tmp 25) 67 (by kernel_rfl) 26 (by kernel_rfl) (.agg #[.int .i64 xr, .slice xa xQ.length xc]) (by kernel_rfl) (fun _ => rfl) (copyRel_any _ _ _ _ _ _ _ ok2_0 (by omega)) ?_ AllReadyH.nil))
          · simp only [Act.put, List.setIfInBounds_toArray, List.set_cons_zero, List.set_cons_succ]
            refine wpAnyH_ready (rs := [9]) (by kernel_rfl) (by simp) (Hn.call1 (i := 9) rfl (by rfl) 44 (.tmp 25) 67 (by kernel_rfl) 26 (by kernel_rfl) (.agg #[.int .i64 xr, .slice xa xQ.length xc]) (by kernel_rfl) (fun _ => rfl) (copyRel_any _ _ _ _ _ _ _ ok2_0 (by omega)) ?_ AllReadyH.nil)
            rintro e2 Wc ⟨v2, F2, rfl, hot2, hl2, hb⟩
            obtain ⟨ra2, rg2, rc2, hv2, hr2⟩ := hot2.form (hF2of F2 hl2)
            subst hv2
            have hm2 := OG.room hot2.og
            replace st := st.below hb
            replace kO0 := (hb.block _ (blk_lt kO0)).trans kO0
            replace B2 := Rw.next B2 hb
            have s2 := hb.size
            replace hr1 := hr1.below hb
            replace hbc := Rw.next hbc hb
            clear hb
            refine ⟨_, rfl, st, fun hHeld => ?_⟩
            simp only [Act.put, List.setIfInBounds_toArray, List.set_cons_zero, List.set_cons_succ]
            refine Hn.take (i := 10) (d := some 27) (v := .agg #[.string xs, .int .i64 yr, .slice ra1 F1.length rc1, .int .i64 xr, .slice ra2 F2.length rc2]) rfl (by kernel_rfl) (by kernel_rfl) (by kernel_rfl) (by kernel_rfl) (fun _ _ _ h => h) (Or.inl ⟨by rfl, by intro w hSw; go_simp⟩) hHeld ?_
            simp only [Act.put, List.setIfInBounds_toArray, List.set_cons_zero, List.set_cons_succ]
            refine wpAnyH_ready (rs := [11]) (by kernel_rfl) (by simp) (Hn.readyRun (i := 11) rfl (by kernel_rfl) (some 28) (by kernel_rfl) (v := .slice (some ⟨Wc.heap.size, 0, none⟩) 1 1) (w' := Wc.alloc (.cells #[.string xs, .int .i64 yr, .slice ra1 F1.length rc1, .int .i64 xr, .slice ra2 F2.length rc2] 71)) (exec_oneC rfl (by kernel_rfl)) (st.below (below_alloc1 _ _)) (fun hHeld => ?_) AllReadyH.nil)
            simp only [Act.put, List.setIfInBounds_toArray, List.set_cons_zero, List.set_cons_succ]
            obtain ⟨Wd, hWd⟩ : ∃ Wd, Wd = Wc.alloc (.cells #[.string xs, .int .i64 yr, .slice ra1 F1.length rc1, .int .i64 xr, .slice ra2 F2.length rc2] 71) := ⟨_, rfl⟩
            rw [← hWd] at hHeld ⊢
            have hT : Wd.heap[Wc.heap.size]? = some (.cells #[.string xs, .int .i64 yr, .slice ra1 F1.length rc1, .int .i64 xr, .slice ra2 F2.length rc2] 71 (0, 0)) := by subst hWd; exact at_new rfl
            have hb : Below Wc.heap.size Wc Wd := by subst hWd; exact below_alloc1 _ _
            have s3 := hb.size
            replace st := st.below hb
            replace kO0 := (hb.block _ (blk_lt kO0)).trans kO0
            replace B2 := Rw.next B2 hb
            replace hr1 := hr1.below hb
            replace hr2 := hr2.below hb
            replace hbc := Rw.next hbc hb
            clear hb hWd
            have hnw : New Wd W.heap.size ⟨xs, ⟨yr, ra1, rg1, 0, rc1, F1⟩, ⟨xr, ra2, rg2, 0, rc2, F2⟩⟩ := ⟨⟨rfl, ⟨_, by omega, hr1⟩, hm1⟩, ⟨rfl, ⟨_, by omega, hr2.mono (by omega) (Nat.le_refl _)⟩, hm2⟩, fun r hr q hq h0 h0' => by have u1 := (hr1.each r hr h0).2.2.1; have u2 := (hr2.each q hq h0').2.1; omega, hnm⟩
            obtain ⟨v', Z, hrun, hosZ, hgr⟩ := hos0.app (x := ⟨xs, ⟨yr, ra1, rg1, 0, rc1, F1⟩, ⟨xr, ra2, rg2, 0, rc2, F2⟩⟩) (c := 1) 28 hbc hnw (by omega) hT hFl
            refine wpAnyH_ready (rs := [12]) (by kernel_rfl) (by simp) (Hn.readyRun (i := 12) rfl (by kernel_rfl) (some 29) (by kernel_rfl) (Hn.exec_app (.tmp 18) (.tmp 28) rfl (by kernel_rfl) (by kernel_rfl) hrun) (st.grown hgr) (fun hHeld => ?_) AllReadyH.nil)
            simp only [Act.put, List.setIfInBounds_toArray, List.set_cons_zero, List.set_cons_succ]
            replace st := st.grown hgr
            obtain ⟨va, vn, vc, hv⟩ := hosZ.slice
            subst hv
            have kOZ := (hgr.block _ (blk_lt kO0) (fun e => by have := (hos0.lt e.symm).1; omega)).trans kO0
            replace B2 := B2.grown hgr B2.size (fun k hk => by have := (hos0.lt hk).1; omega)
            have o0 := Pl.one kOZ
            have fO := Vl.free kOZ
            refine Hn.take (i := 13) (d := some 30) (v := .pointer (some ⟨OB, 0, none⟩)) rfl (by kernel_rfl) (by kernel_rfl) (by kernel_rfl) (by kernel_rfl) (fun _ _ _ h => h) (Or.inl ⟨by rfl, by intro w hSw; go_simp⟩) hHeld ?_
            simp only [Act.put, List.setIfInBounds_toArray, List.set_cons_zero, List.set_cons_succ]
            refine wpAnyH_ready (rs := [14]) (by kernel_rfl) (by simp) (Hn.readySkip (i := 14) rfl (by kernel_rfl) none (by kernel_rfl) (w' := Z.setCell ⟨OB, 0, none⟩ (.slice va vn vc)) (by go_simp) st.set (fun hHeld => ?_) AllReadyH.nil)
            simp only [Act.put, List.setIfInBounds_toArray, List.set_cons_zero, List.set_cons_succ]
            refine wpAnyH_done (by kernel_rfl) ?_ _
            have kO' : (Z.setCell ⟨OB, 0, none⟩ (.slice va vn vc)).heap[OB]? = some (.cells #[(.slice va vn vc)] 30 (0, 0)) := one_set kOZ
            have B1' : Below w.heap.size w (Z.setCell ⟨OB, 0, none⟩ (.slice va vn vc)) := Vl.bset B2 hwo
            have hos' : OD (Z.setCell ⟨OB, 0, none⟩ (.slice va vn vc)) B (.slice va vn vc) (F ++ [⟨xs, ⟨yr, ra1, rg1, 0, rc1, F1⟩, ⟨xr, ra2, rg2, 0, rc2, F2⟩⟩]) := hosZ.keep (fun x _ hx => Below.heap_setCell _ _ _ _ (by simp; omega)) (by simp)
            replace st : Rl.Stab W5 (OB) v (Z.setCell ⟨OB, 0, none⟩ (.slice va vn vc)) := st.set
            generalize Z.setCell ⟨OB, 0, none⟩ (.slice va vn vc) = Y9 at *
            go_wp2
            go_roundw
            case rel => exact ⟨k + 1, _, _, by omega, by go_num, kO', hos', by rw [told_app, HT.out, HTn.out]; simp only [Cm.l, Re.l, hl1, hl2], by simp only [List.length_append, List.length_singleton]; omega, Nat.le_trans hBs st.size, B1', (st.block _ (by omega) (by omega) (fun e => by have := (hos0.lt e.symm).1; omega)).trans kR5⟩
            case measure => simp [intOf]; omega
          · rintro e2 Wc ⟨v2, F2, rfl, hot2, hl2, hb⟩
            obtain ⟨ra2, rg2, rc2, hv2, hr2⟩ := hot2.form (hF2of F2 hl2)
            subst hv2
            have hm2 := OG.room hot2.og
            replace st := st.below hb
            replace kO0 := (hb.block _ (blk_lt kO0)).trans kO0
            replace B2 := Rw.next B2 hb
            have s2 := hb.size
            replace hr1 := hr1.below hb
            replace hbc := Rw.next hbc hb
            clear hb
            refine ⟨_, rfl, st, fun hHeld => ?_⟩
            simp only [Act.put, List.setIfInBounds_toArray, List.set_cons_zero, List.set_cons_succ]
            refine Hn.take (i := 10) (d := some 27) (v := .agg #[.string xs, .int .i64 yr, .slice ra1 F1.length rc1, .int .i64 xr, .slice ra2 F2.length rc2]) rfl (by kernel_rfl) (by kernel_rfl) (by kernel_rfl) (by kernel_rfl) (fun _ _ _ h => h) (Or.inl ⟨by rfl, by intro w hSw; go_simp⟩) hHeld ?_
            simp only [Act.put, List.setIfInBounds_toArray, List.set_cons_zero, List.set_cons_succ]
            refine wpAnyH_ready (rs := [1, 11]) (by kernel_rfl) (by simp) (Hn.readyRun (i := 1) rfl (by kernel_rfl) (some 18) (by kernel_rfl) (v := v) (w' := Wc) (by have o0 := Pl.one kO0; go_simp) st (fun hHeld => ?_) (Hn.readyRun (i := 11) rfl (by kernel_rfl) (some 28) (by kernel_rfl) (v := .slice (some ⟨Wc.heap.size, 0, none⟩) 1 1) (w' := Wc.alloc (.cells #[.string xs, .int .i64 yr, .slice ra1 F1.length rc1, .int .i64 xr, .slice ra2 F2.length rc2] 71)) (exec_oneC rfl (by kernel_rfl)) (st.below (below_alloc1 _ _)) (fun hHeld => ?_) AllReadyH.nil))
            · simp only [Act.put, List.setIfInBounds_toArray, List.set_cons_zero, List.set_cons_succ]
              refine wpAnyH_ready (rs := [11]) (by kernel_rfl) (by simp) (Hn.readyRun (i := 11) rfl (by kernel_rfl) (some 28) (by kernel_rfl) (v := .slice (some ⟨Wc.heap.size, 0, none⟩) 1 1) (w' := Wc.alloc (.cells #[.string xs, .int .i64 yr, .slice ra1 F1.length rc1, .int .i64 xr, .slice ra2 F2.length rc2] 71)) (exec_oneC rfl (by kernel_rfl)) (st.below (below_alloc1 _ _)) (fun hHeld => ?_) AllReadyH.nil)
              simp only [Act.put, List.setIfInBounds_toArray, List.set_cons_zero, List.set_cons_succ]
              obtain ⟨Wd, hWd⟩ : ∃ Wd, Wd = Wc.alloc (.cells #[.string xs, .int .i64 yr, .slice ra1 F1.length rc1, .int .i64 xr, .slice ra2 F2.length rc2] 71) := ⟨_, rfl⟩
              rw [← hWd] at hHeld ⊢
              have hT : Wd.heap[Wc.heap.size]? = some (.cells #[.string xs, .int .i64 yr, .slice ra1 F1.length rc1, .int .i64 xr, .slice ra2 F2.length rc2] 71 (0, 0)) := by subst hWd; exact at_new rfl
              have hb : Below Wc.heap.size Wc Wd := by subst hWd; exact below_alloc1 _ _
              have s3 := hb.size
              replace st := st.below hb
              replace kO0 := (hb.block _ (blk_lt kO0)).trans kO0
              replace B2 := Rw.next B2 hb
              replace hr1 := hr1.below hb
              replace hr2 := hr2.below hb
              replace hbc := Rw.next hbc hb
              clear hb hWd
              have hnw : New Wd W.heap.size ⟨xs, ⟨yr, ra1, rg1, 0, rc1, F1⟩, ⟨xr, ra2, rg2, 0, rc2, F2⟩⟩ := ⟨⟨rfl, ⟨_, by omega, hr1⟩, hm1⟩, ⟨rfl, ⟨_, by omega, hr2.mono (by omega) (Nat.le_refl _)⟩, hm2⟩, fun r hr q hq h0 h0' => by have u1 := (hr1.each r hr h0).2.2.1; have u2 := (hr2.each q hq h0').2.1; omega, hnm⟩
              obtain ⟨v', Z, hrun, hosZ, hgr⟩ := hos0.app (x := ⟨xs, ⟨yr, ra1, rg1, 0, rc1, F1⟩, ⟨xr, ra2, rg2, 0, rc2, F2⟩⟩) (c := 1) 28 hbc hnw (by omega) hT hFl
              refine wpAnyH_ready (rs := [12]) (by kernel_rfl) (by simp) (Hn.readyRun (i := 12) rfl (by kernel_rfl) (some 29) (by kernel_rfl) (Hn.exec_app (.tmp 18) (.tmp 28) rfl (by kernel_rfl) (by kernel_rfl) hrun) (st.grown hgr) (fun hHeld => ?_) AllReadyH.nil)
              simp only [Act.put, List.setIfInBounds_toArray, List.set_cons_zero, List.set_cons_succ]
              replace st := st.grown hgr
              obtain ⟨va, vn, vc, hv⟩ := hosZ.slice
              subst hv
              have kOZ := (hgr.block _ (blk_lt kO0) (fun e => by have := (hos0.lt e.symm).1; omega)).trans kO0
              replace B2 := B2.grown hgr B2.size (fun k hk => by have := (hos0.lt hk).1; omega)
              have o0 := Pl.one kOZ
              have fO := Vl.free kOZ
              refine Hn.take (i := 13) (d := some 30) (v := .pointer (some ⟨OB, 0, none⟩)) rfl (by kernel_rfl) (by kernel_rfl) (by kernel_rfl) (by kernel_rfl) (fun _ _ _ h => h) (Or.inl ⟨by rfl, by intro w hSw; go_simp⟩) hHeld ?_
              simp only [Act.put, List.setIfInBounds_toArray, List.set_cons_zero, List.set_cons_succ]
              refine wpAnyH_ready (rs := [14]) (by kernel_rfl) (by simp) (Hn.readySkip (i := 14) rfl (by kernel_rfl) none (by kernel_rfl) (w' := Z.setCell ⟨OB, 0, none⟩ (.slice va vn vc)) (by go_simp) st.set (fun hHeld => ?_) AllReadyH.nil)
              simp only [Act.put, List.setIfInBounds_toArray, List.set_cons_zero, List.set_cons_succ]
              refine wpAnyH_done (by kernel_rfl) ?_ _
              have kO' : (Z.setCell ⟨OB, 0, none⟩ (.slice va vn vc)).heap[OB]? = some (.cells #[(.slice va vn vc)] 30 (0, 0)) := one_set kOZ
              have B1' : Below w.heap.size w (Z.setCell ⟨OB, 0, none⟩ (.slice va vn vc)) := Vl.bset B2 hwo
              have hos' : OD (Z.setCell ⟨OB, 0, none⟩ (.slice va vn vc)) B (.slice va vn vc) (F ++ [⟨xs, ⟨yr, ra1, rg1, 0, rc1, F1⟩, ⟨xr, ra2, rg2, 0, rc2, F2⟩⟩]) := hosZ.keep (fun x _ hx => Below.heap_setCell _ _ _ _ (by simp; omega)) (by simp)
              replace st : Rl.Stab W5 (OB) v (Z.setCell ⟨OB, 0, none⟩ (.slice va vn vc)) := st.set
              generalize Z.setCell ⟨OB, 0, none⟩ (.slice va vn vc) = Y9 at *
              go_wp2
              go_roundw
              case rel => exact ⟨k + 1, _, _, by omega, by go_num, kO', hos', by rw [told_app, HT.out, HTn.out]; simp only [Cm.l, Re.l, hl1, hl2], by simp only [List.length_append, List.length_singleton]; omega, Nat.le_trans hBs st.size, B1', (st.block _ (by omega) (by omega) (fun e => by have := (hos0.lt e.symm).1; omega)).trans kR5⟩
              case measure => simp [intOf]; omega
            · simp only [Act.put, List.setIfInBounds_toArray, List.set_cons_zero, List.set_cons_succ]
              obtain ⟨Wd, hWd⟩ : ∃ Wd, Wd = Wc.alloc (.cells #[.string xs, .int .i64 yr, .slice ra1 F1.length rc1, .int .i64 xr, .slice ra2 F2.length rc2] 71) := ⟨_, rfl⟩
              rw [← hWd] at hHeld ⊢
              have hT : Wd.heap[Wc.heap.size]? = some (.cells #[.string xs, .int .i64 yr, .slice ra1 F1.length rc1, .int .i64 xr, .slice ra2 F2.length rc2] 71 (0, 0)) := by subst hWd; exact at_new rfl
              have hb : Below Wc.heap.size Wc Wd := by subst hWd; exact below_alloc1 _ _
              have s3 := hb.size
              replace st := st.below hb
              replace kO0 := (hb.block _ (blk_lt kO0)).trans kO0
              replace B2 := Rw.next B2 hb
              replace hr1 := hr1.below hb
              replace hr2 := hr2.below hb
              replace hbc := Rw.next hbc hb
              clear hb hWd
              refine wpAnyH_ready (rs := [1]) (by kernel_rfl) (by simp) (Hn.readyRun (i := 1) rfl (by kernel_rfl) (some 18) (by kernel_rfl) (v := v) (w' := Wd) (by have o0 := Pl.one kO0; go_simp) st (fun hHeld => ?_) AllReadyH.nil)
              simp only [Act.put, List.setIfInBounds_toArray, List.set_cons_zero, List.set_cons_succ]
              have hnw : New Wd W.heap.size ⟨xs, ⟨yr, ra1, rg1, 0, rc1, F1⟩, ⟨xr, ra2, rg2, 0, rc2, F2⟩⟩ := ⟨⟨rfl, ⟨_, by omega, hr1⟩, hm1⟩, ⟨rfl, ⟨_, by omega, hr2.mono (by omega) (Nat.le_refl _)⟩, hm2⟩, fun r hr q hq h0 h0' => by have u1 := (hr1.each r hr h0).2.2.1; have u2 := (hr2.each q hq h0').2.1; omega, hnm⟩
              obtain ⟨v', Z, hrun, hosZ, hgr⟩ := hos0.app (x := ⟨xs, ⟨yr, ra1, rg1, 0, rc1, F1⟩, ⟨xr, ra2, rg2, 0, rc2, F2⟩⟩) (c := 1) 28 hbc hnw (by omega) hT hFl
              refine wpAnyH_ready (rs := [12]) (by kernel_rfl) (by simp) (Hn.readyRun (i := 12) rfl (by kernel_rfl) (some 29) (by kernel_rfl) (Hn.exec_app (.tmp 18) (.tmp 28) rfl (by kernel_rfl) (by kernel_rfl) hrun) (st.grown hgr) (fun hHeld => ?_) AllReadyH.nil)
              simp only [Act.put, List.setIfInBounds_toArray, List.set_cons_zero, List.set_cons_succ]
              replace st := st.grown hgr
              obtain ⟨va, vn, vc, hv⟩ := hosZ.slice
              subst hv
              have kOZ := (hgr.block _ (blk_lt kO0) (fun e => by have := (hos0.lt e.symm).1; omega)).trans kO0
              replace B2 := B2.grown hgr B2.size (fun k hk => by have := (hos0.lt hk).1; omega)
              have o0 := Pl.one kOZ
              have fO := Vl.free kOZ
              refine Hn.take (i := 13) (d := some 30) (v := .pointer (some ⟨OB, 0, none⟩)) rfl (by kernel_rfl) (by kernel_rfl) (by kernel_rfl) (by kernel_rfl) (fun _ _ _ h => h) (Or.inl ⟨by rfl, by intro w hSw; go_simp⟩) hHeld ?_
              simp only [Act.put, List.setIfInBounds_toArray, List.set_cons_zero, List.set_cons_succ]
              refine wpAnyH_ready (rs := [14]) (by kernel_rfl) (by simp) (Hn.readySkip (i := 14) rfl (by kernel_rfl) none (by kernel_rfl) (w' := Z.setCell ⟨OB, 0, none⟩ (.slice va vn vc)) (by go_simp) st.set (fun hHeld => ?_) AllReadyH.nil)
              simp only [Act.put, List.setIfInBounds_toArray, List.set_cons_zero, List.set_cons_succ]
              refine wpAnyH_done (by kernel_rfl) ?_ _
              have kO' : (Z.setCell ⟨OB, 0, none⟩ (.slice va vn vc)).heap[OB]? = some (.cells #[(.slice va vn vc)] 30 (0, 0)) := one_set kOZ
              have B1' : Below w.heap.size w (Z.setCell ⟨OB, 0, none⟩ (.slice va vn vc)) := Vl.bset B2 hwo
              have hos' : OD (Z.setCell ⟨OB, 0, none⟩ (.slice va vn vc)) B (.slice va vn vc) (F ++ [⟨xs, ⟨yr, ra1, rg1, 0, rc1, F1⟩, ⟨xr, ra2, rg2, 0, rc2, F2⟩⟩]) := hosZ.keep (fun x _ hx => Below.heap_setCell _ _ _ _ (by simp; omega)) (by simp)
              replace st : Rl.Stab W5 (OB) v (Z.setCell ⟨OB, 0, none⟩ (.slice va vn vc)) := st.set
              generalize Z.setCell ⟨OB, 0, none⟩ (.slice va vn vc) = Y9 at *
              go_wp2
              go_roundw
              case rel => exact ⟨k + 1, _, _, by omega, by go_num, kO', hos', by rw [told_app, HT.out, HTn.out]; simp only [Cm.l, Re.l, hl1, hl2], by simp only [List.length_append, List.length_singleton]; omega, Nat.le_trans hBs st.size, B1', (st.block _ (by omega) (by omega) (fun e => by have := (hos0.lt e.symm).1; omega)).trans kR5⟩
              case measure => simp [intOf]; omega
      · have he : k = n := by omega
        subst he
        have o0 := Pl.one kOr
        have r0 := Pl.one kRr
        have fR := Vl.free kRr
        obtain ⟨va, vn, vc, hv⟩ := hosr.slice
        subst hv
        clear hh hc ho hst hCh HTn0
        go_wp2
        refine bodyPost_ret (v := .agg #[.slice va vn vc]) (by simp [results, Tryz.results12, go_sem, r0]) rfl ⟨_, F, rfl, (hosr.keep (fun x _ hx => Below.heap_setCell _ _ _ _ (by simp; omega)) (by simp)).mono (by omega), by rw [HT.out, HTl.out, HM.out], Vl.bset B1r (by simp)⟩



end Go.Proofs.YtkpchlojapkimaaGreat.Ch

namespace Go.Proofs.YtkpchlojapkimaaGreat.Ch
set_option maxRecDepth 8000
set_option linter.unusedSimpArgs false
set_option linter.unusedVariables false
open Go Go.ChangeShapes Go.WideShapes Go.RowKit
open Num Word Pl Rp
open Rl (Rm rm0 said twoB MA ResC OT)
open St (Nm nm0 NL storeB)
open Mp (Owns Is nv)

/-- Are both right, of one arity, and all rows of the first in the second? -/
def inB (m r : QL) : Bool := twoB m.1 m.2 r.1 r.2 && decide ((m.2.filter fun z => decide (z ∉ r.2)).length = 0)
/-- Does the change fit the relation? -/
def fitR (x : CL) (r : QL) : Bool := inB x.2.2 r && apartB x.2.1 r
/-- Does the change fit the store? -/
def fitB (S : List NL) (x : CL) : Bool := match S.find? (fun y => decide (y.1 = x.1)) with
  | none => false
  | some y => fitR x y.2
def fitsB (S : List NL) (T : List CL) : Bool := storeB S && deltaB T && T.all (fitB S)
theorem in_MA {m r : QL} {ar : Int} {X : List RowL} {c : Int} (h : MA stOne m.1 m.2 r.1 r.2 ar X c) : (decide (c = 0) && decide (X.length = 0)) = inB m r := by
  unfold MA at h
  unfold inB
  cases ht : twoB m.1 m.2 r.1 r.2 with
  | false =>
    rw [ht, if_neg (by simp)] at h
    obtain ⟨_, rfl, rfl⟩ := h
    simp
  | true =>
    rw [ht, if_pos rfl] at h
    obtain ⟨r1, r2, _⟩ := two_parts ht
    have hb := minus_eq r1.sorted r2.sorted r1.ok r2.ok
    have hl : (mergeL stOne m.2 r.2).length ≤ 300 := by
      rw [hb]; exact Nat.le_trans (List.length_filter_le _ _) r1.few
    rw [if_pos hl] at h
    obtain ⟨_, rfl, rfl⟩ := h
    rw [hb]
    simp
theorem find_yes {T : List Nm} (h : T.Pairwise (fun x y => x.s ≠ y.s)) {y : Nm} (hy : y ∈ T) {s : ByteArray} (e : y.s = s) : (St.told T).find? (fun z => decide (z.1 = s)) = some y.l := by
  induction T with
  | nil => simp at hy
  | cons x T ih =>
    obtain ⟨h1, h2⟩ := List.pairwise_cons.1 h
    simp only [St.told, List.map_cons]
    rcases List.mem_cons.1 hy with rfl | hy
    · rw [List.find?_cons_of_pos (p := fun z : NL => decide (z.1 = s)) (a := y.l) (decide_eq_true (show y.l.1 = s from e))]
    · rw [List.find?_cons_of_neg (p := fun z : NL => decide (z.1 = s)) (a := x.l) (fun e2 => h1 y hy ((show x.s = s from of_decide_eq_true e2).trans e.symm))]
      exact ih h2 hy
theorem find_no {T : List Nm} {s : ByteArray} (h : ∀ y ∈ T, y.s ≠ s) : (St.told T).find? (fun z => decide (z.1 = s)) = none := by
  rw [List.find?_eq_none]
  intro z hz
  obtain ⟨y, hy, rfl⟩ := List.mem_map.1 hz
  exact fun e => h y hy (show y.s = s from of_decide_eq_true e)
theorem allF_at {S : List NL} {T : List Cm} (h : ∀ i, i < T.length → fitB S (T.getD i cm0).l = true) : (told T).all (fitB S) = true := by
  refine List.all_eq_true.2 fun x hx => ?_
  obtain ⟨i, hi, rfl⟩ := List.getElem_of_mem hx
  have hi' : i < T.length := by rw [told_len] at hi; exact hi
  have := h i hi'
  rw [← told_at hi'] at this
  simpa [List.getD, hi] using this
theorem allF_bad {S : List NL} {T : List Cm} {k : Nat} (hk : k < T.length) (h : fitB S (T.getD k cm0).l = false) : (told T).all (fitB S) = false := by
  rw [List.all_eq_false]
  have hk' : k < (told T).length := by rw [told_len]; exact hk
  refine ⟨(told T)[k], List.getElem_mem hk', ?_⟩
  rw [← told_at hk] at h
  simpa [List.getD, hk'] using h
theorem bare_at (ar : Int) (a : Option Addr) (n c : Nat) (ok V : Bool) (w : World) (h : (ok && decide (n = 0)) = V) :
    Calls Tryz.prog 64 #[.agg #[.int .i64 ar, .slice a n c], .bool ok] w fun e w' => e = .returned (.bool V) ∧ Below w.heap.size w w' := by
  rw [← h]; exact bare_any ar a n c ok w

set_option maxHeartbeats 4000000 in
theorem unfitF_any (x : Cm) (T : List Nm) (mb B n : Nat) (D : DataW Value) (w : World) (hs : x.s.size ≤ maxLen) (h : x.Ok w) (hc : x.Room) (hT : ∀ y ∈ T, y.Ok w) (hTr : ∀ y ∈ T, y.Q.length ≤ y.c) (hB : storeB (St.told T) = true) (km : w.cell? ⟨mb, 0, none⟩ = some (.map (some B))) (ow : Owns w B n D) (is : Is D (T.map nv)) :
    Calls Tryz.prog 63 #[.agg #[.string x.s, .int .i64 x.p.ar, .slice x.p.a x.p.Q.length x.p.c, .int .i64 x.m.ar, .slice x.m.a x.m.Q.length x.m.c], .pointer (some ⟨mb, 0, none⟩)] w fun e w' => e = .returned (.bool (!fitB (St.told T) x.l)) ∧ Below w.heap.size w w' := by
  obtain ⟨s, ⟨ar, a, b, o, c, Q⟩, ⟨br, d, b', o', c', P⟩⟩ := x
  obtain ⟨h1, h2⟩ := h
  obtain ⟨hc1, hc2⟩ := hc
  simp only at hs h1 h2 hc1 hc2
  obtain ⟨W1, hW1⟩ : ∃ W1, W1 = w.alloc (.cells #[.string s, .int .i64 ar, .slice a Q.length c, .int .i64 br, .slice d P.length c'] 71) := ⟨_, rfl⟩
  have B1 : Below w.heap.size w W1 := by subst hW1; exact below_alloc1 _ _
  have k0 : W1.heap[w.heap.size]? = some (.cells #[.string s, .int .i64 ar, .slice a Q.length c, .int .i64 br, .slice d P.length c'] 71 (0, 0)) := by subst hW1; exact at_new rfl
  have HD := Mp.store_apart hB
  have HF1 : Hid (∀ y ∈ T, y.s = s → fitB (St.told T) (Cm.l ⟨s, ⟨ar, a, b, o, c, Q⟩, ⟨br, d, b', o', c', P⟩⟩) = (inB (br, said P) (y.ar, said y.Q) && apartB (ar, said Q) (y.ar, said y.Q))) := fun y hy e => by
    show (match (St.told T).find? (fun z => decide (z.1 = s)) with
      | none => false
      | some y => fitR (s, (ar, said Q), (br, said P)) y.2) = _
    rw [find_yes HD hy e]; rfl
  have HF2 : Hid ((∀ y ∈ T, y.s ≠ s) → fitB (St.told T) (Cm.l ⟨s, ⟨ar, a, b, o, c, Q⟩, ⟨br, d, b', o', c', P⟩⟩) = false) := fun hn => by
    show (match (St.told T).find? (fun z => decide (z.1 = s)) with
      | none => false
      | some y => fitR (s, (ar, said Q), (br, said P)) y.2) = _
    rw [find_no hn]
  generalize fitB (St.told T) (Cm.l ⟨s, ⟨ar, a, b, o, c, Q⟩, ⟨br, d, b', o', c', P⟩⟩) = R at HF1 HF2 ⊢
  have ow1 := Mp.owns_below ow B1
  have hT1 : ∀ y ∈ T, y.Ok W1 := fun y hy => Rl.Rd.below (hT y hy) B1
  have lm : mb < w.heap.size := World.block_lt_of_cell? _ _ km
  replace h1 := h1.below B1
  replace h2 := h2.below B1
  clear HD hB ow hT
  obtain ⟨p0, p1, p2, p3, p4⟩ := five k0
  have lk := blk_lt k0
  go_enter Tryz.func63, Tryz.ntmps63
  go_wp2_with (first
    | (at_lookup; rw [← hW1]; clear hW1; refine Mp.look_any _ rfl _ _ rfl B _ D T rfl ow1 is s hs rfl ?_ ?_))
  · intro y hy e
    have HE : Hid (R = (inB (br, said P) (y.ar, said y.Q) && apartB (ar, said Q) (y.ar, said y.Q))) := HF1.out y hy e
    have oy : Rl.Rd W1 y.a y.b y.o y.Q := hT1 y hy
    have ry := hTr y hy
    clear HF1 HF2 hT1 hTr is hy e
    obtain ⟨ys, yr, ya, yb, yo, yc, yQ⟩ := y
    simp only at oy ry HE
    obtain ⟨W2, hW2⟩ : ∃ W2, W2 = W1.alloc (.cells #[.int .i64 yr, .slice ya yQ.length yc] 67) := ⟨_, rfl⟩
    have b2 : Below W1.heap.size W1 W2 := by subst hW2; exact below_alloc1 _ _
    have k1 : W2.heap[W1.heap.size]? = some (.cells #[.int .i64 yr, .slice ya yQ.length yc] 67 (0, 0)) := by subst hW2; exact at_new rfl
    replace k0 := (b2.block _ (blk_lt k0)).trans k0
    replace h1 := h1.below b2
    replace h2 := h2.below b2
    replace oy := oy.below b2
    replace B1 := Rw.next B1 b2
    obtain ⟨qr, X, cc, hA, hX⟩ := Rl.MA_some stOne br (said P) yr (said yQ)
    have hAp := in_MA (m := (br, said P)) (r := (yr, said yQ)) hA
    have hM := fun W k k' => Rl.minusI_any br yr d ya b' o' c' yb yo yc P yQ W k k' hc2 ry qr X cc hA
    obtain ⟨qr2, X2, cc2, hA2, hX2⟩ := Rl.MA_some stTwo ar (said Q) yr (said yQ)
    have hAp2 := apart_MA (p := (ar, said Q)) (m := (yr, said yQ)) hA2
    have hN := fun W k k' => Rl.bothI_any ar yr a ya b o c yb yo yc Q yQ W k k' hc1 ry qr2 X2 cc2 hA2
    have HX : Hid (X.length ≤ 300 ∧ X2.length ≤ 300) := ⟨hX, hX2⟩
    have HE1 : Hid (∀ u, u = X.length → ((cc == 0) && decide (u = 0)) = inB (br, said P) (yr, said yQ)) := fun u hu => by rw [hu]; exact hAp
    have HE2 : Hid (∀ u, u = X2.length → ((cc2 == 0) && decide (u = 0)) = apartB (ar, said Q) (yr, said yQ)) := fun u hu => by rw [hu]; exact hAp2
    clear hA hA2 hAp hAp2 hX hX2
    generalize inB (br, said P) (yr, said yQ) = V1 at HE1 HE
    generalize apartB (ar, said Q) (yr, said yQ) = V2 at HE2 HE
    have tok1 : True := trivial
    cases V1 with
    | false =>
      go_wp2_with (first
        | (go_at_call 65; rw [← hW2]; clear hW2; refine (hM _ h2 oy).mono ?_; intro e w2 hr; obtain ⟨ua, un, uc, he, hn, hb⟩ := ResC.parts hr HX.out.1; clear hr; subst he; have HN : Hid (un = X.length) := hn; clear hn; replace B1 := Rw.next B1 hb; clear hb)
        | (go_at_call 64; refine (bare_at _ _ _ _ _ false _ (HE1.out _ HN.out)).mono ?_; rintro e w3 ⟨rfl, hb⟩))
      go_ret
      exact ⟨ret_bool (by rw [HE.out]; simp), Rw.next B1 hb⟩
    | true =>
      go_wp2_with (first
        | (go_at_call 65; rw [← hW2]; clear hW2; refine (hM _ h2 oy).mono ?_; intro e w2 hr; obtain ⟨ua, un, uc, he, hn, hb⟩ := ResC.parts hr HX.out.1; clear hr; subst he; have HN : Hid (un = X.length) := hn; clear hn; replace B1 := Rw.next B1 hb; replace k0 := (hb.block _ (blk_lt k0)).trans k0; replace k1 := (hb.block _ (blk_lt k1)).trans k1; replace h1 := h1.below hb; replace oy := oy.below hb; clear hb p0 p1 p2 p3 p4)
        | (go_at_call 64; clear tok1; refine (bare_at _ _ _ _ _ true _ (HE1.out _ HN.out)).mono ?_; rintro e w3 ⟨rfl, hb⟩; replace B1 := Rw.next B1 hb; replace k0 := (hb.block _ (blk_lt k0)).trans k0; replace k1 := (hb.block _ (blk_lt k1)).trans k1; replace h1 := h1.below hb; replace oy := oy.below hb; clear hb; obtain ⟨p0, p1, p2, p3, p4⟩ := five k0; obtain ⟨y0, y1⟩ := two k1)
        | (go_at_call 66; refine (hN _ h1 oy).mono ?_; intro e w2 hr; obtain ⟨ub, um, ud, he, hn, hb⟩ := ResC.parts hr HX.out.2; clear hr; subst he; have HN2 : Hid (um = X2.length) := hn; clear hn; replace B1 := Rw.next B1 hb; clear hb; have tok2 : True := trivial)
        | (go_at_call 64; clear tok2; refine (bare_at _ _ _ _ _ V2 _ (HE2.out _ HN2.out)).mono ?_; rintro e w3 ⟨rfl, hb⟩))
      go_ret
      exact ⟨ret_bool (by rw [HE.out]; simp), Rw.next B1 hb⟩
  · intro hn
    have HE : Hid (R = false) := HF2.out hn
    go_wp2
    go_ret
    exact ⟨ret_bool (by rw [HE.out]; simp), Rw.next B1 (below_alloc1 _ _)⟩

end Go.Proofs.YtkpchlojapkimaaGreat.Ch

namespace Go.Proofs.YtkpchlojapkimaaGreat.Ch
set_option maxRecDepth 8000
set_option linter.unusedSimpArgs false
set_option linter.unusedVariables false
open Go Go.ChangeShapes Go.WideShapes Go.RowKit
open Num Word Pl Rp
open Rl (Rm rm0 said twoB MA ResC OT)
open St (Nm nm0 NL storeB)
open Mp (Owns Is nv)

set_option maxHeartbeats 1000000 in
theorem indexF_any (a : Option Addr) (b off cap : Nat) (T : List Cm) (w : World) (h : Rd w a b off T) (hm : Rooms T) (S : List Nm) (mb B nn : Nat) (D : DataW Value) (hS : ∀ y ∈ S, y.Ok w) (hSr : ∀ y ∈ S, y.Q.length ≤ y.c) (hB : storeB (St.told S) = true) (km : w.cell? ⟨mb, 0, none⟩ = some (.map (some B))) (ow : Owns w B nn D) (is : Is D (S.map nv)) :
    Calls Tryz.prog 102 #[.slice a T.length cap, .func (.func 63) #[] #[.pointer (some ⟨mb, 0, none⟩)]] w fun e w' => Below w.heap.size w w' ∧ ∃ r : Int, e = .returned (.int .i64 r) ∧ (!decide (0 ≤ r)) = (told T).all (fitB (St.told S)) := by
  obtain ⟨hh, hc, ho, hs, hst⟩ := h
  have HB : Hid (∀ k, k < T.length → fitB (St.told S) (T.getD k cm0).l = false → (told T).all (fitB (St.told S)) = false) := fun k hk h => allF_bad hk h
  have HG : Hid ((∀ i, i < T.length → fitB (St.told S) (T.getD i cm0).l = true) → (told T).all (fitB (St.told S)) = true) := fun h => allF_at h
  generalize (told T).all (fitB (St.told S)) = R at HB HG ⊢
  unfold Rooms at hm
  obtain ⟨n, hn⟩ : ∃ n, n = T.length := ⟨_, rfl⟩
  rw [← hn] at hh hc ho hs hst HB HG hm ⊢
  clear hn
  go_enter Tryz.func102, Tryz.ntmps102
  go_wp2
  go_loopw [8] (fun i wr => ∃ k : Nat, k ≤ n ∧ i = .int .i64 k ∧ Below w.heap.size w wr ∧ ∀ i, i < k → fitB (St.told S) (T.getD i cm0).l = true) (fun i _ => n - (intOf i).toNat)
  case atStart => exact ⟨0, Nat.zero_le _, rfl, Below.refl _ _, fun i hi => by omega⟩
  case round =>
    obtain ⟨k, hk, rfl, hbel, hpre⟩ := hrel
    have HP : Hid (∀ i, i < k → fitB (St.told S) (T.getD i cm0).l = true) := hpre
    clear hpre
    by_cases hlt : k < n
    · obtain rfl := hh (by omega)
      have hkz : (k : Int) < (n : Int) := by omega
      obtain ⟨c0, c1, c2, c3, c4⟩ := At5.of (hc k hlt) hbel (hc k hlt).lt
      have o1 : (T.getD k cm0).Ok wr := ⟨Rl.Rd.below (ho k hlt).1 hbel, Rl.Rd.below (ho k hlt).2 hbel⟩
      have hst1 := hst k hlt
      have hm1 := hm k hlt
      have HB1 : Hid (fitB (St.told S) (T.getD k cm0).l = false → R = false) := HB.out k hlt
      have HX : Hid (fitB (St.told S) (T.getD k cm0).l = true → ∀ i, i < k + 1 → fitB (St.told S) (T.getD i cm0).l = true) := fun h i hi => by
        by_cases e : i = k
        · subst e; exact h
        · exact HP.out i (by omega)
      have hU := unfitF_any (T.getD k cm0) S mb B nn D wr hst1 o1 hm1 (fun y hy => Rl.Rd.below (hS y hy) hbel) hSr hB ((hbel.cell (World.block_lt_of_cell? _ _ km)).trans km) (Mp.owns_below ow hbel) is
      clear hc ho hh HB hst hm hst1 o1 hm1 hS hSr hB km ow is
      generalize fitB (St.told S) (T.getD k cm0).l = V at hU HB1 HX
      cases hv : V with
      | true =>
        rw [hv] at hU
        go_wp2_with (go_at_call 63; refine hU.mono ?_; rintro e w1 ⟨rfl, hb⟩)
        go_roundw
        case rel => exact ⟨k + 1, by omega, by go_num, Rw.next hbel hb, HX.out hv⟩
        case measure => simp [intOf]; omega
      | false =>
        rw [hv] at hU
        go_wp2_with (go_at_call 63; refine hU.mono ?_; rintro e w1 ⟨rfl, hb⟩)
        go_ret
        exact ⟨Rw.next hbel hb, _, rfl, by rw [HB1.out hv]; simp⟩
    · have he : k = n := by omega
      subst he
      go_wp2
      go_ret
      exact ⟨hbel, _, rfl, by rw [HG.out HP.out]; rfl⟩

theorem containsF_any (a : Option Addr) (b off cap : Nat) (T : List Cm) (w : World) (h : Rd w a b off T) (hm : Rooms T) (S : List Nm) (mb B nn : Nat) (D : DataW Value) (hS : ∀ y ∈ S, y.Ok w) (hSr : ∀ y ∈ S, y.Q.length ≤ y.c) (hB : storeB (St.told S) = true) (km : w.cell? ⟨mb, 0, none⟩ = some (.map (some B))) (ow : Owns w B nn D) (is : Is D (S.map nv)) :
    Calls Tryz.prog 48 #[.slice a T.length cap, .func (.func 63) #[] #[.pointer (some ⟨mb, 0, none⟩)]] w fun e w' => e = .returned (.bool (!(told T).all (fitB (St.told S)))) ∧ Below w.heap.size w w' := by
  have hi := indexF_any a b off cap T w h hm S mb B nn D hS hSr hB km ow is
  generalize (told T).all (fitB (St.told S)) = R at hi ⊢
  go_enter Tryz.func48, Tryz.ntmps48
  go_wp2_with (go_at_call 102; refine hi.mono ?_; rintro e w1 ⟨hb, r, rfl, hr⟩; have HR : Hid ((!decide (0 ≤ r)) = R) := hr; clear hr)
  go_ret
  exact ⟨ret_bool (by rw [← HR.out]; simp), hb⟩


set_option maxHeartbeats 4000000 in
theorem fitsI_any (a : Option Addr) (b off cap : Nat) (S : List Nm) (a' : Option Addr) (b' off' cap' : Nat) (T : List Cm) (w : World) (h : St.Rd w a b off S) (hSr : St.Rooms S) (h' : Rd w a' b' off' T) (hm : Rooms T) :
    Calls Tryz.prog 22 #[.agg #[.slice a S.length cap], .agg #[.slice a' T.length cap']] w fun e w' => e = .returned (.bool (fitsB (St.told S) (told T))) ∧ Below w.heap.size w w' := by
  obtain ⟨W1, hW1⟩ : ∃ W1, W1 = (w.alloc (.cells #[.slice a S.length cap] 25)).alloc (.cells #[.slice a' T.length cap'] 30) := ⟨_, rfl⟩
  have B1 : Below w.heap.size w W1 := by subst hW1; exact below_alloc2 _ _ _
  have k0 : W1.heap[w.heap.size]? = some (.cells #[.slice a S.length cap] 25 (0, 0)) := by subst hW1; rw [at_old (by simp), at_new rfl]
  have k1 : W1.heap[w.heap.size + 1]? = some (.cells #[.slice a' T.length cap'] 30 (0, 0)) := by subst hW1; exact at_new (by simp)
  have p1 := one k1
  replace h := h.below B1
  replace h' := h'.below B1
  have hO := St.okI_any a b off cap S W1 h
  have hP := fun W hh => okI_any a' b' off' cap' T W hh hm
  unfold fitsB
  cases hB : storeB (St.told S) with
  | false =>
    rw [hB] at hO
    go_enter Tryz.func22, Tryz.ntmps22
    go_wp2_with (go_at_call 37; rw [← hW1]; clear hW1; refine hO.mono ?_; rintro e w1 ⟨rfl, hb⟩)
    go_ret
    exact ⟨ret_bool (by simp), Rw.next B1 hb⟩
  | true =>
    rw [hB] at hO
    cases hD : deltaB (told T) with
    | false =>
      rw [hD] at hP
      go_enter Tryz.func22, Tryz.ntmps22
      go_wp2_with (first
        | (go_at_call 37; rw [← hW1]; clear hW1; refine hO.mono ?_; rintro e w1 ⟨rfl, hb⟩; replace B1 := Rw.next B1 hb; replace k1 := (hb.block _ (blk_lt k1)).trans k1; replace h' := h'.below hb; clear hb p1; have p1 := one k1)
        | (go_at_call 14; refine (hP _ h').mono ?_; rintro e w2 ⟨rfl, hb⟩))
      go_ret
      exact ⟨ret_bool (by simp), Rw.next B1 hb⟩
    | true =>
      rw [hD] at hP
      have HM : Hid (Mp.mapL S = S.map nv) := Mp.mapL_eq (Mp.store_apart hB)
      have hC := fun W hh mb B D hS km ow is => containsF_any a' b' off' cap' T W hh hm S mb B S.length D hS hSr.mem hB km ow is
      generalize (told T).all (fitB (St.told S)) = R at hC ⊢
      clear hD
      go_enter Tryz.func22, Tryz.ntmps22
      go_wp2_with (first
        | (go_at_call 37; rw [← hW1]; clear hW1; refine hO.mono ?_; rintro e w1 ⟨rfl, hb⟩; replace B1 := Rw.next B1 hb; replace k0 := (hb.block _ (blk_lt k0)).trans k0; replace k1 := (hb.block _ (blk_lt k1)).trans k1; replace h := h.below hb; replace h' := h'.below hb; clear hb p1; have p1 := one k1)
        | (go_at_call 14; clear p1; refine (hP _ h').mono ?_; rintro e w2 ⟨rfl, hb⟩; replace B1 := Rw.next B1 hb; replace k0 := (hb.block _ (blk_lt k0)).trans k0; replace k1 := (hb.block _ (blk_lt k1)).trans k1; replace h := h.below hb; replace h' := h'.below hb; clear hb; have p0 := one k0)
        | (go_at_call 41; clear p0; refine (Mp.relsOf_any _ _ _ _ _ _ h).mono ?_; rintro e w3 ⟨hb, M, D, rfl, hM, ow, is⟩; replace B1 := Rw.next B1 hb; replace k1 := (hb.block _ (blk_lt k1)).trans k1; replace h := h.below hb; replace h' := h'.below hb; clear hb; rw [HM.out] at is; have p1 := one k1; have lk := blk_lt k1)
        | (go_at_call 48; obtain ⟨W4, hW4⟩ : ∃ W4, W4 = w3.alloc (.cells #[.map (some M)] 77) := ⟨_, rfl⟩; have b4 : Below w3.heap.size w3 W4 := (by subst hW4; exact below_alloc1 _ _); have k4 : W4.heap[w3.heap.size]? = some (.cells #[.map (some M)] 77 (0, 0)) := (by subst hW4; exact at_new rfl); rw [← hW4]; clear hW4; refine (hC _ (h'.below b4) _ M D (fun y hy => Rl.Rd.below (Mp.rd_ok h y hy) b4) (one k4) (Mp.owns_below ow b4) is).mono ?_; rintro e w5 ⟨rfl, hb⟩; replace B1 := Rw.next (Rw.next B1 b4) hb))
      go_ret
      exact ⟨ret_bool (by simp), B1⟩

end Go.Proofs.YtkpchlojapkimaaGreat.Ch

namespace Go.Proofs.YtkpchlojapkimaaGreat.Ch
set_option maxRecDepth 8000
set_option linter.unusedSimpArgs false
set_option linter.unusedVariables false
open Go Go.ChangeShapes Go.WideShapes Go.RowKit
open Num Word Pl Rp
open Rl (Rm rm0 said twoB MA ResC OT)
open St (Nm nm0 NL storeB)

theorem none_both (R S : List RowL) : decide ((R.filter fun z => decide (z ∈ S)).length = 0) = decide ((S.filter fun z => decide (z ∈ R)).length = 0) := by
  have key : ∀ (A B : List RowL), (A.filter fun z => decide (z ∈ B)).length = 0 → (B.filter fun z => decide (z ∈ A)).length = 0 := fun A B h => by
    rw [List.length_eq_zero_iff] at h ⊢
    rw [List.filter_eq_nil_iff] at h ⊢
    intro z hz e
    exact h z (of_decide_eq_true e) (decide_eq_true hz)
  by_cases h : (R.filter fun z => decide (z ∈ S)).length = 0
  · rw [decide_eq_true h, decide_eq_true (key _ _ h)]
  · rw [decide_eq_false h, decide_eq_false (fun h' => h (key _ _ h'))]
theorem filter_not (R S : List RowL) : (R.filter fun z => decide (z ∉ S)) = R.filter fun z => decide (z ∈ S) == false := by
  congr 1; funext z; by_cases h : z ∈ S <;> simp [h]
/-- What the specification asks of a change and the relation of its name. -/
theorem spec_fit {x : CL} {r : QL} (h : changeB x = true) (hr : RelP r.1 r.2) : fitR x r = (decide (r.1 = x.2.1.1) && decide ((r.2.filter fun z => decide (z ∈ x.2.1.2)).length = 0) && decide ((x.2.2.2.filter fun z => decide (z ∈ r.2) == false).length = 0)) := by
  obtain ⟨h1, h2, h3⟩ := change_parts h
  unfold fitR inB apartB twoB
  have e1 : relB x.2.1.1 x.2.1.2 = true := relB_of h1
  have e2 : relB x.2.2.1 x.2.2.2 = true := by rw [← h3]; exact relB_of h2
  have e3 : relB r.1 r.2 = true := relB_of hr
  rw [e1, e2, e3, none_both x.2.1.2, filter_not, ← h3]
  by_cases e : x.2.1.1 = r.1
  · rw [decide_eq_true e, decide_eq_true e.symm]
    simp [Bool.and_comm]
  · have e' : ¬ r.1 = x.2.1.1 := fun q => e q.symm
    rw [decide_eq_false e, decide_eq_false e']
    simp

set_option maxHeartbeats 4000000 in
theorem fitsS_any (a : Option Addr) (b off cap : Nat) (S : List Nm) (a' : Option Addr) (b' off' cap' : Nat) (T : List Cm) (w : World) (h : St.Rd w a b off S) (h' : Rd w a' b' off' T) :
    Calls Tryz.prog 19 #[.agg #[.slice a S.length cap], .agg #[.slice a' T.length cap']] w fun e w' => e = .returned (.bool (fitsB (St.told S) (told T))) ∧ Below w.heap.size w w' := by
  obtain ⟨W1, hW1⟩ : ∃ W1, W1 = (w.alloc (.cells #[.slice a S.length cap] 25)).alloc (.cells #[.slice a' T.length cap'] 30) := ⟨_, rfl⟩
  have B1 : Below w.heap.size w W1 := by subst hW1; exact below_alloc2 _ _ _
  have k0 : W1.heap[w.heap.size]? = some (.cells #[.slice a S.length cap] 25 (0, 0)) := by subst hW1; rw [at_old (by simp), at_new rfl]
  have k1 : W1.heap[w.heap.size + 1]? = some (.cells #[.slice a' T.length cap'] 30 (0, 0)) := by subst hW1; exact at_new (by simp)
  have p1 := one k1
  replace h := h.below B1
  replace h' := h'.below B1
  have hO := St.okS_any a b off cap S W1 h
  have hP := fun W hh => okS_any a' b' off' cap' T W hh
  unfold fitsB
  cases hB : storeB (St.told S) with
  | false =>
    rw [hB] at hO
    go_enter Tryz.func19, Tryz.ntmps19
    go_wp2_with (go_at_call 34; rw [← hW1]; clear hW1; refine hO.mono ?_; rintro e w1 ⟨rfl, hb⟩)
    go_ret
    exact ⟨ret_bool (by simp), Rw.next B1 hb⟩
  | true =>
    rw [hB] at hO
    cases hD : deltaB (told T) with
    | false =>
      rw [hD] at hP
      go_enter Tryz.func19, Tryz.ntmps19
      go_wp2_with (first
        | (go_at_call 34; rw [← hW1]; clear hW1; refine hO.mono ?_; rintro e w1 ⟨rfl, hb⟩; replace B1 := Rw.next B1 hb; replace k1 := (hb.block _ (blk_lt k1)).trans k1; replace h' := h'.below hb; clear hb p1; have p1 := one k1)
        | (go_at_call 58; refine (hP _ h').mono ?_; rintro e w2 ⟨rfl, hb⟩))
      go_ret
      exact ⟨ret_bool (by simp), Rw.next B1 hb⟩
    | true =>
      rw [hD] at hP
      obtain ⟨R, hR⟩ : ∃ R, R = (told T).all (fitB (St.told S)) := ⟨_, rfl⟩
      have HB : Hid (∀ k, k < T.length → fitB (St.told S) (T.getD k cm0).l = false → R = false) := fun k hk h => by rw [hR]; exact allF_bad hk h
      have HG : Hid ((∀ i, i < T.length → fitB (St.told S) (T.getD i cm0).l = true) → R = true) := fun h => by rw [hR]; exact allF_at h
      have HD0 := Mp.store_apart hB
      have hCh := (delta_parts hD).2
      have HFy : Hid (∀ k, k < T.length → ∀ y ∈ S, y.s = (T.getD k cm0).s → fitB (St.told S) (T.getD k cm0).l = (decide (y.ar = (T.getD k cm0).p.ar) && decide (((said y.Q).filter fun z => decide (z ∈ said (T.getD k cm0).p.Q)).length = 0) && decide (((said (T.getD k cm0).m.Q).filter fun z => decide (z ∈ said y.Q) == false).length = 0))) := fun k hk y hy e => by
        have q : fitB (St.told S) (T.getD k cm0).l = fitR (T.getD k cm0).l y.l.2 := by
          show (match (St.told S).find? (fun z => decide (z.1 = (T.getD k cm0).s)) with
            | none => false
            | some y => fitR (T.getD k cm0).l y.2) = _
          rw [find_yes HD0 hy e]
        rw [q, spec_fit (hCh k hk) (Mp.store_one hB (Mp.mem_told hy)).2]
        rfl
      have HFn : Hid (∀ k, k < T.length → (∀ y ∈ S, y.s ≠ (T.getD k cm0).s) → fitB (St.told S) (T.getD k cm0).l = false) := fun k hk hn => by
        show (match (St.told S).find? (fun z => decide (z.1 = (T.getD k cm0).s)) with
            | none => false
            | some y => fitR (T.getD k cm0).l y.2) = _
        rw [find_no hn]
      have HF4 : Hid (∀ y ∈ S, y.Q.length ≤ 100000) := fun y hy => Mp.few_at hB hy
      have HM4 : Hid (∀ k, k < T.length → (T.getD k cm0).m.Q.length ≤ 100000) := fun k hk => by have := (change_few (hCh k hk)).2; omega
      have hfr := field_rows
      rw [← hR]
      clear hR HD0 hCh hB hD
      obtain ⟨n, hn⟩ : ∃ n, n = T.length := ⟨_, rfl⟩
      rw [← hn] at HB HG HFy HFn HM4 k1 hW1 p1 hP ⊢
      have HN : Hid (n = T.length) := hn
      clear hn
      go_enter Tryz.func19, Tryz.ntmps19
      go_wp2_with (first
        | (go_at_call 34; rw [← hW1]; clear hW1; refine hO.mono ?_; rintro e w1 ⟨rfl, hb⟩; replace B1 := Rw.next B1 hb; replace k0 := (hb.block _ (blk_lt k0)).trans k0; replace k1 := (hb.block _ (blk_lt k1)).trans k1; replace h := h.below hb; replace h' := h'.below hb; clear hb p1; have p1 := one k1)
        | (go_at_call 58; clear p1; refine (hP _ h').mono ?_; rintro e w2 ⟨rfl, hb⟩; replace B1 := Rw.next B1 hb; replace k0 := (hb.block _ (blk_lt k0)).trans k0; replace k1 := (hb.block _ (blk_lt k1)).trans k1; replace h := h.below hb; replace h' := h'.below hb; clear hb; have p1 := one k1))
      obtain ⟨hh, hc, ho, hs, hst⟩ := h'
      rw [← HN.out] at hh hc ho hs hst
      clear p1 k1
      go_loopw [20] (fun i wr => ∃ k : Nat, k ≤ n ∧ i = .int .i64 k ∧ Below w2.heap.size w2 wr ∧ ∀ i, i < k → fitB (St.told S) (T.getD i cm0).l = true) (fun i _ => n - (intOf i).toNat)
      case atStart => exact ⟨0, Nat.zero_le _, rfl, Below.refl _ _, fun i hi => by omega⟩
      case round =>
        obtain ⟨k, hk, rfl, hbel, hpre⟩ := hrel
        have HP : Hid (∀ i, i < k → fitB (St.told S) (T.getD i cm0).l = true) := hpre
        clear hpre
        by_cases hlt : k < n
        · obtain rfl := hh (by omega)
          have hkz : (k : Int) < (n : Int) := by omega
          obtain ⟨A0, A1, A2, A3, A4⟩ := At5.of (hc k hlt) hbel (hc k hlt).lt
          have o1 := Rl.Rd.below (ho k hlt).1 hbel
          have o2 := Rl.Rd.below (ho k hlt).2 hbel
          have HB1 : Hid (fitB (St.told S) (T.getD k cm0).l = false → R = false) := HB.out k hlt
          have HX : Hid (fitB (St.told S) (T.getD k cm0).l = true → ∀ i, i < k + 1 → fitB (St.told S) (T.getD i cm0).l = true) := fun h i hi => by
            by_cases e : i = k
            · subst e; exact h
            · exact HP.out i (by omega)
          have HY := HFy.out k hlt
          have HZ := HFn.out k hlt
          have hm4 := HM4.out k hlt
          clear hc ho hh HB hst HP HFy HFn HM4
          generalize fitB (St.told S) (T.getD k cm0).l = V at HB1 HX HY HZ
          generalize T.getD k cm0 = x at A0 A1 A2 A3 A4 o1 o2 HY HZ hm4
          obtain ⟨xs, ⟨xr, xa, xb, xo, xc, xQ⟩, ⟨mr, ma, mb, mo, mc, mQ⟩⟩ := x
          simp only at A0 A1 A2 A3 A4 o1 o2 HY HZ hm4
          have HYy : Hid (∀ y ∈ S, y.s = xs → V = (decide (y.ar = xr) && decide (((said y.Q).filter fun z => decide (z ∈ said xQ)).length = 0) && decide (((said mQ).filter fun z => decide (z ∈ said y.Q) == false).length = 0))) := HY
          have HZn : Hid ((∀ y ∈ S, y.s ≠ xs) → V = false) := HZ
          clear HY HZ
          have hr := h.below hbel
          replace k0 := (hbel.block _ (blk_lt k0)).trans k0
          obtain ⟨W5, hW5⟩ : ∃ W5, W5 = wr.alloc (.cells #[.string xs, .int .i64 xr, .slice xa xQ.length xc, .int .i64 mr, .slice ma mQ.length mc] 71) := ⟨_, rfl⟩
          have b5 : Below wr.heap.size wr W5 := by subst hW5; exact below_alloc1 _ _
          have kg : W5.heap[wr.heap.size]? = some (.cells #[.string xs, .int .i64 xr, .slice xa xQ.length xc, .int .i64 mr, .slice ma mQ.length mc] 71 (0, 0)) := by subst hW5; exact at_new rfl
          have p0 := one k0
          have l0 := blk_lt k0
          go_wp2_with (go_at_call 59; rw [← hW5]; clear hW5; refine (Mp.l12Rel_any _ _ _ _ _ _ _ (hr.below b5)).mono ?_)
          rintro e w3 ⟨hb, ⟨y, hy, he, rfl⟩ | ⟨hno, rfl⟩⟩
          · have E := HYy.out y hy he
            have oy : Rl.Rd w3 y.a y.b y.o y.Q := Rl.Rd.below (Mp.rd_ok hr y hy) (Rw.next b5 hb)
            have hy4 := HF4.out y hy
            clear HYy HZn
            replace kg := (hb.block _ (blk_lt kg)).trans kg
            replace o1 := o1.below (Rw.next b5 hb)
            replace o2 := o2.below (Rw.next b5 hb)
            have hb3 := Rw.next hbel (Rw.next b5 hb)
            clear hb b5 p0 l0 A0 A1 A2 A3 A4 hr k0
            obtain ⟨ys, yr, ya, yb, yo, yc, yQ⟩ := y
            simp only at E oy hy4 he
            clear he hy
            obtain ⟨g0, g1, g2, g3, g4⟩ := five kg
            have lg := blk_lt kg
            obtain ⟨W6, hW6⟩ : ∃ W6, W6 = w3.alloc (.cells #[.int .i64 yr, .slice ya yQ.length yc] 67) := ⟨_, rfl⟩
            have b6 : Below w3.heap.size w3 W6 := by subst hW6; exact below_alloc1 _ _
            have kr : W6.heap[w3.heap.size]? = some (.cells #[.int .i64 yr, .slice ya yQ.length yc] 67 (0, 0)) := by subst hW6; exact at_new rfl
            replace kg := (b6.block _ (blk_lt kg)).trans kg
            replace oy := oy.below b6
            replace o1 := o1.below b6
            replace o2 := o2.below b6
            replace hb3 := Rw.next hb3 b6
            have hAp := fun W k k' => apartS_any yr xr ya xa yb yo yc xb xo xc yQ xQ W k k' hy4
            have hSf := fun W k k' => Rl.sift_any mr yr ma ya mb mo mc yb yo yc mQ yQ false W k k' hm4
            have hfl : (((said mQ).filter fun z => decide (z ∈ said yQ) == false)).length ≤ 100000 := Nat.le_trans (List.length_filter_le _ _) (by rw [Rl.said_len]; exact hm4)
            generalize ((said mQ).filter fun z => decide (z ∈ said yQ) == false) = X at hSf hfl E
            generalize decide (((said yQ).filter fun z => decide (z ∈ said xQ)).length = 0) = V2 at hAp E
            have HE : Hid (V = (decide (yr = xr) && V2 && decide (X.length = 0))) := E
            have HFl : Hid (X.length ≤ 100000) := hfl
            clear E hfl
            by_cases er : yr = xr
            · subst er
              have hq : (yr != yr) = false := by simp
              cases V2 with
              | false =>
                go_wp2_with (go_at_call 60; rw [← hW6]; clear hW6; refine (hAp _ oy o1).mono ?_; rintro e w7 ⟨rfl, hb⟩)
                go_ret
                exact ⟨ret_bool (HB1.out (by rw [HE.out]; simp)).symm, Rw.next (Rw.next B1 hb3) hb⟩
              | true =>
                by_cases hz : X.length = 0
                · have HZ : Hid (X.length = 0) := hz
                  clear hz
                  go_wp2_with (first
                    | (go_at_call 60; rw [← hW6]; clear hW6; refine (hAp _ oy o1).mono ?_; rintro e w7 ⟨rfl, hb⟩; replace kg := (hb.block _ (blk_lt kg)).trans kg; replace kr := (hb.block _ (blk_lt kr)).trans kr; replace oy := oy.below hb; replace o2 := o2.below hb; replace hb3 := Rw.next hb3 hb; clear hb g0 g1 g2 g3 g4; obtain ⟨g0, g1, g2, g3, g4⟩ := five kg; obtain ⟨y0, y1⟩ := two kr)
                    | (go_at_call 40; refine (hSf _ o2 oy).mono ?_; rintro e w8 ⟨v, F, rfl, hot, sF, hb⟩; obtain ⟨ua, ug, uc, hv, _⟩ := hot.form (by have := HFl.out; rw [← sF, Rl.said_len] at this; omega); subst hv; have hn : F.length = 0 := (by rw [← Rl.said_len, sF]; exact HZ.out); rw [hn]; clear hn hot sF))
                  go_roundw
                  case rel => exact ⟨k + 1, by omega, by go_num, Rw.next hb3 hb, HX.out (by rw [HE.out, HZ.out]; simp)⟩
                  case measure => simp [intOf]; omega
                · have HZ : Hid (X.length ≠ 0) := hz
                  clear hz
                  go_wp2_with (first
                    | (go_at_call 60; rw [← hW6]; clear hW6; refine (hAp _ oy o1).mono ?_; rintro e w7 ⟨rfl, hb⟩; replace kg := (hb.block _ (blk_lt kg)).trans kg; replace kr := (hb.block _ (blk_lt kr)).trans kr; replace oy := oy.below hb; replace o2 := o2.below hb; replace hb3 := Rw.next hb3 hb; clear hb g0 g1 g2 g3 g4; obtain ⟨g0, g1, g2, g3, g4⟩ := five kg; obtain ⟨y0, y1⟩ := two kr)
                    | (go_at_call 40; refine (hSf _ o2 oy).mono ?_; rintro e w8 ⟨v, F, rfl, hot, sF, hb⟩; obtain ⟨ua, ug, uc, hv, _⟩ := hot.form (by have := HFl.out; rw [← sF, Rl.said_len] at this; omega); subst hv; have hn : F.length ≠ 0 := (by rw [← Rl.said_len, sF]; exact HZ.out); generalize F.length = fl at hn ⊢; have hz : (0 : Int) < (fl : Int) := (by omega); clear hn hot sF))
                  go_ret
                  exact ⟨ret_bool (HB1.out (by rw [HE.out, decide_eq_false HZ.out]; simp)).symm, Rw.next (Rw.next B1 hb3) hb⟩
            · have hq : (yr != xr) = true := by simp [er]
              have HEf : Hid (V = false) := by rw [Hid, HE.out, decide_eq_false er]; simp
              clear er
              go_wp2
              go_ret
              exact ⟨ret_bool (HB1.out HEf.out).symm, by rw [← hW6]; exact Rw.next B1 hb3⟩
          · have E := HZn.out hno
            have hb3 := Rw.next hbel (Rw.next b5 hb)
            go_wp2
            go_ret
            exact ⟨ret_bool (HB1.out E).symm, Rw.next (Rw.next B1 hb3) (below_alloc1 _ _)⟩
        · have he : k = n := by omega
          subst he
          go_wp2
          go_ret
          exact ⟨ret_bool (by rw [HG.out HP.out]; rfl), Rw.next B1 hbel⟩

end Go.Proofs.YtkpchlojapkimaaGreat.Ch

namespace Go.Proofs.YtkpchlojapkimaaGreat.Ch
set_option maxRecDepth 8000
set_option linter.unusedSimpArgs false
set_option linter.unusedVariables false
open Go Go.ChangeShapes Go.WideShapes Go.RowKit
open Num Word Pl Rp
open Rl (Rm rm0 said)

set_option maxHeartbeats 1000000 in
theorem eqC_same (s : ByteArray) (x y : Re) (x' y' : Re) (w : World) (h : Rl.Rd w x.a x.b x.o x.Q) (h' : Rl.Rd w x'.a x'.b x'.o x'.Q) (k : Rl.Rd w y.a y.b y.o y.Q) (k' : Rl.Rd w y'.a y'.b y'.o y'.Q) (he : x.l = x'.l) (hf : y.l = y'.l) :
    Calls Tryz.prog 120 #[.agg #[.string s, .int .i64 x.ar, .slice x.a x.Q.length x.c, .int .i64 y.ar, .slice y.a y.Q.length y.c], .agg #[.string s, .int .i64 x'.ar, .slice x'.a x'.Q.length x'.c, .int .i64 y'.ar, .slice y'.a y'.Q.length y'.c]] w fun e w' => e = .returned (.bool true) ∧ Below w.heap.size w w' := by
  obtain ⟨xr, xa, xb, xo, xc, xQ⟩ := x
  obtain ⟨yr, ya, yb, yo, yc, yQ⟩ := y
  obtain ⟨xr', xa', xb', xo', xc', xQ'⟩ := x'
  obtain ⟨yr', ya', yb', yo', yc', yQ'⟩ := y'
  simp only [Re.l, Prod.mk.injEq] at h h' k k' he hf ⊢
  obtain ⟨rfl, he⟩ := he
  obtain ⟨rfl, hf⟩ := hf
  obtain ⟨W1, hW1⟩ : ∃ W1, W1 = (w.alloc (.cells #[.string s, .int .i64 xr, .slice xa xQ.length xc, .int .i64 yr, .slice ya yQ.length yc] 71)).alloc (.cells #[.string s, .int .i64 xr, .slice xa' xQ'.length xc', .int .i64 yr, .slice ya' yQ'.length yc'] 71) := ⟨_, rfl⟩
  have B : Below w.heap.size w W1 := by subst hW1; exact below_alloc2 _ _ _
  have k0 : W1.heap[w.heap.size]? = some (.cells #[.string s, .int .i64 xr, .slice xa xQ.length xc, .int .i64 yr, .slice ya yQ.length yc] 71 (0, 0)) := by subst hW1; rw [at_old (by simp), at_new rfl]
  have k1 : W1.heap[w.heap.size + 1]? = some (.cells #[.string s, .int .i64 xr, .slice xa' xQ'.length xc', .int .i64 yr, .slice ya' yQ'.length yc'] 71 (0, 0)) := by subst hW1; exact at_new (by simp)
  have hE := Rl.eqL_same xr xa xa' xb xo xc xb' xo' xc' xQ xQ' _ (h.below B) (h'.below B) he
  have hF := fun W a b => Rl.eqL_same yr ya ya' yb yo yc yb' yo' yc' yQ yQ' W a b hf
  replace k := k.below B
  replace k' := k'.below B
  have hq : (s.toList == s.toList) = true := by simp
  clear h h' he hf
  go_enter Tryz.func120, Tryz.ntmps120
  have tok1 : True := trivial
  go_wp2_with (first
    | (go_at_call 149; clear tok1; rw [← hW1]; clear hW1; refine hE.mono ?_; rintro e w1 ⟨rfl, hb⟩; replace k0 := (hb.block _ (blk_lt k0)).trans k0; replace k1 := (hb.block _ (blk_lt k1)).trans k1; obtain ⟨p0, p1, p2, p3, p4⟩ := five k0; obtain ⟨q0, q1, q2, q3, q4⟩ := five k1; have tok2 : True := trivial)
    | (go_at_call 149; clear tok2; refine (hF _ (k.below hb) (k'.below hb)).mono ?_; rintro e w2 ⟨rfl, hb'⟩))
  go_ret
  exact ⟨rfl, Rw.next B (Rw.next hb hb')⟩

theorem told_parts {x y : Cm} (h : x.l = y.l) : x.s = y.s ∧ x.p.l = y.p.l ∧ x.m.l = y.m.l := by
  simp only [Cm.l, Prod.mk.injEq] at h; exact h

set_option maxHeartbeats 1000000 in
theorem eqCs_same (a a' : Option Addr) (b off cap b' off' cap' : Nat) (T P : List Cm) (w : World) (h : Rd w a b off T) (h' : Rd w a' b' off' P) (he : told T = told P) :
    Calls Tryz.prog 68 #[.slice a T.length cap, .slice a' P.length cap'] w fun e w' => e = .returned (.bool true) ∧ Below w.heap.size w w' := by
  obtain ⟨hh, hc, ho, hs, _⟩ := h
  obtain ⟨hh', hc', ho', _, _⟩ := h'
  have hl : P.length = T.length := by rw [← told_len, ← told_len, he]
  have HE : Hid (∀ i, i < T.length → (T.getD i cm0).l = (P.getD i cm0).l) := fun i hi => by rw [← told_at hi, ← told_at (by omega), he]
  rw [hl] at hh' hc' ho' ⊢
  obtain ⟨n, hn⟩ : ∃ n, n = T.length := ⟨_, rfl⟩
  rw [← hn] at hh hc ho hs hh' hc' ho' HE ⊢
  clear hn hl he
  go_enter Tryz.func68, Tryz.ntmps68
  go_wp2
  go_loopw [5] (fun i wr => ∃ k : Nat, k ≤ n ∧ i = .int .i64 k ∧ Below w.heap.size w wr) (fun i _ => n - (intOf i).toNat)
  case atStart => exact ⟨0, Nat.zero_le _, rfl, Below.refl _ _⟩
  case round =>
    obtain ⟨k, hk, rfl, hbel⟩ := hrel
    by_cases hlt : k < n
    · obtain rfl := hh (by omega)
      obtain rfl := hh' (by omega)
      have hkz : (k : Int) < (n : Int) := by omega
      obtain ⟨c0, c1, c2, c3, c4⟩ := At5.of (hc k hlt) hbel (hc k hlt).lt
      obtain ⟨d0, d1, d2, d3, d4⟩ := At5.of (hc' k hlt) hbel (hc' k hlt).lt
      have o0 := Rl.Rd.below (ho k hlt).1 hbel
      have p0 := Rl.Rd.below (ho k hlt).2 hbel
      have o1 := Rl.Rd.below (ho' k hlt).1 hbel
      have p1 := Rl.Rd.below (ho' k hlt).2 hbel
      have hx := told_parts (HE.out k hlt)
      generalize T.getD k cm0 = x at c0 c1 c2 c3 c4 o0 p0 hx
      generalize P.getD k cm0 = y at d0 d1 d2 d3 d4 o1 p1 hx
      obtain ⟨xs, xp, xm⟩ := x
      obtain ⟨ys, yp, ym⟩ := y
      simp only at c0 c1 c2 c3 c4 d0 d1 d2 d3 d4 o0 o1 p0 p1 hx
      obtain ⟨rfl, hx, hy⟩ := hx
      have hE := fun W h h' k k' => eqC_same xs xp xm yp ym W h h' k k' hx hy
      have HX : Hid (xp.l = yp.l ∧ xm.l = ym.l) := ⟨hx, hy⟩
      clear hc hc' hh hh' ho ho' HE hx hy
      go_wp2
      go_region_with (go_at_call 120; refine (hE _ (o0.below (by repeat (first | exact Below.refl _ _ | apply Below.drew))) (o1.below (by repeat (first | exact Below.refl _ _ | apply Below.drew))) (p0.below (by repeat (first | exact Below.refl _ _ | apply Below.drew))) (p1.below (by repeat (first | exact Below.refl _ _ | apply Below.drew)))).mono ?_; rintro e w1 ⟨rfl, hb⟩)
      all_goals go_wp2
      all_goals go_roundw
      all_goals first
        | exact ⟨k + 1, by omega, by go_num, Rw.next (by repeat (first | exact hbel | apply Below.drew)) hb⟩
        | (simp [intOf]; omega)
    · have he : k = n := by omega
      subst he
      go_wp2
      go_ret
      exact ⟨rfl, hbel⟩
theorem eqDl_same (a a' : Option Addr) (b off cap b' off' cap' : Nat) (T P : List Cm) (w : World) (h : Rd w a b off T) (h' : Rd w a' b' off' P) (he : told T = told P) :
    Calls Tryz.prog 24 #[.agg #[.slice a T.length cap], .agg #[.slice a' P.length cap']] w fun e w' => e = .returned (.bool true) ∧ Below w.heap.size w w' := by
  have B := below_alloc2 w (.cells #[.slice a T.length cap] 30) (.cells #[.slice a' P.length cap'] 30)
  have h1 := h.below B
  have h2 := h'.below B
  have hE := eqCs_same a a' b off cap b' off' cap' T P _ h1 h2 he
  go_enter Tryz.func24, Tryz.ntmps24
  go_wp2_with (go_at_call 68; refine hE.mono ?_; rintro e w1 ⟨rfl, hb⟩)
  go_ret
  exact ⟨rfl, Rw.next B hb⟩

end Go.Proofs.YtkpchlojapkimaaGreat.Ch

namespace Go.Proofs.YtkpchlojapkimaaGreat.St
set_option maxRecDepth 8000
set_option linter.unusedSimpArgs false
set_option linter.unusedVariables false
open Go Go.ChangeShapes Go.WideShapes Go.RowKit
open Num Word Pl Rp
open Rl (Rm rm0 said)

set_option maxHeartbeats 1000000 in
theorem eqN_same (s : ByteArray) (ar : Int) (a a' : Option Addr) (b off cap b' off' cap' : Nat) (Q P : List Rm) (w : World) (h : Rl.Rd w a b off Q) (h' : Rl.Rd w a' b' off' P) (he : said Q = said P) :
    Calls Tryz.prog 119 #[.agg #[.string s, .int .i64 ar, .slice a Q.length cap], .agg #[.string s, .int .i64 ar, .slice a' P.length cap']] w fun e w' => e = .returned (.bool true) ∧ Below w.heap.size w w' := by
  have B := below_alloc2 w (.cells #[.string s, .int .i64 ar, .slice a Q.length cap] 69) (.cells #[.string s, .int .i64 ar, .slice a' P.length cap'] 69)
  have h1 := h.below B
  have h2 := h'.below B
  have hE := Rl.eqL_same ar a a' b off cap b' off' cap' Q P _ h1 h2 he
  have hq : (s.toList == s.toList) = true := by simp
  go_enter Tryz.func119, Tryz.ntmps119
  go_wp2_with (go_at_call 149; refine hE.mono ?_; rintro e w1 ⟨rfl, hb⟩)
  go_ret
  exact ⟨rfl, Rw.next B hb⟩

theorem told_parts {x y : Nm} (h : x.l = y.l) : x.s = y.s ∧ x.ar = y.ar ∧ said x.Q = said y.Q := by
  simp only [Nm.l, Prod.mk.injEq] at h; exact h

set_option maxHeartbeats 1000000 in
theorem eqNs_same (a a' : Option Addr) (b off cap b' off' cap' : Nat) (T P : List Nm) (w : World) (h : Rd w a b off T) (h' : Rd w a' b' off' P) (he : told T = told P) :
    Calls Tryz.prog 67 #[.slice a T.length cap, .slice a' P.length cap'] w fun e w' => e = .returned (.bool true) ∧ Below w.heap.size w w' := by
  obtain ⟨hh, hc, ho, hs, _⟩ := h
  obtain ⟨hh', hc', ho', _, _⟩ := h'
  have hl : P.length = T.length := by rw [← told_len, ← told_len, he]
  have HE : Hid (∀ i, i < T.length → (T.getD i nm0).l = (P.getD i nm0).l) := fun i hi => by rw [← told_at hi, ← told_at (by omega), he]
  rw [hl] at hh' hc' ho' ⊢
  obtain ⟨n, hn⟩ : ∃ n, n = T.length := ⟨_, rfl⟩
  rw [← hn] at hh hc ho hs hh' hc' ho' HE ⊢
  clear hn hl he
  go_enter Tryz.func67, Tryz.ntmps67
  go_wp2
  go_loopw [5] (fun i wr => ∃ k : Nat, k ≤ n ∧ i = .int .i64 k ∧ Below w.heap.size w wr) (fun i _ => n - (intOf i).toNat)
  case atStart => exact ⟨0, Nat.zero_le _, rfl, Below.refl _ _⟩
  case round =>
    obtain ⟨k, hk, rfl, hbel⟩ := hrel
    by_cases hlt : k < n
    · obtain rfl := hh (by omega)
      obtain rfl := hh' (by omega)
      have hkz : (k : Int) < (n : Int) := by omega
      obtain ⟨c0, c1, c2⟩ := At3.of (hc k hlt) hbel (hc k hlt).lt
      obtain ⟨d0, d1, d2⟩ := At3.of (hc' k hlt) hbel (hc' k hlt).lt
      have o0 := Rl.Rd.below (ho k hlt) hbel
      have o1 := Rl.Rd.below (ho' k hlt) hbel
      have hx := told_parts (HE.out k hlt)
      generalize T.getD k nm0 = x at c0 c1 c2 o0 hx
      generalize P.getD k nm0 = y at d0 d1 d2 o1 hx
      obtain ⟨xs, xr, xa, xb, xo, xc, xQ⟩ := x
      obtain ⟨ys, yr, ya, yb, yo, yc, yQ⟩ := y
      simp only at c0 c1 c2 d0 d1 d2 o0 o1 hx
      obtain ⟨rfl, rfl, hx⟩ := hx
      have hE := fun W h h' => eqN_same xs xr xa ya xb xo xc yb yo yc xQ yQ W h h' hx
      clear hc hc' hh hh' ho ho' HE hx
      go_wp2
      go_region_with (go_at_call 119; refine (hE _ (o0.below (by repeat (first | exact Below.refl _ _ | apply Below.drew))) (o1.below (by repeat (first | exact Below.refl _ _ | apply Below.drew)))).mono ?_; rintro e w1 ⟨rfl, hb⟩)
      all_goals go_wp2
      all_goals go_roundw
      all_goals first
        | exact ⟨k + 1, by omega, by go_num, Rw.next (by repeat (first | exact hbel | apply Below.drew)) hb⟩
        | (simp [intOf]; omega)
    · have he : k = n := by omega
      subst he
      go_wp2
      go_ret
      exact ⟨rfl, hbel⟩
theorem eqSt_same (a a' : Option Addr) (b off cap b' off' cap' : Nat) (T P : List Nm) (w : World) (h : Rd w a b off T) (h' : Rd w a' b' off' P) (he : told T = told P) :
    Calls Tryz.prog 23 #[.agg #[.slice a T.length cap], .agg #[.slice a' P.length cap']] w fun e w' => e = .returned (.bool true) ∧ Below w.heap.size w w' := by
  have B := below_alloc2 w (.cells #[.slice a T.length cap] 25) (.cells #[.slice a' P.length cap'] 25)
  have h1 := h.below B
  have h2 := h'.below B
  have hE := eqNs_same a a' b off cap b' off' cap' T P _ h1 h2 he
  go_enter Tryz.func23, Tryz.ntmps23
  go_wp2_with (go_at_call 67; refine hE.mono ?_; rintro e w1 ⟨rfl, hb⟩)
  go_ret
  exact ⟨rfl, Rw.next B hb⟩

end Go.Proofs.YtkpchlojapkimaaGreat.St

