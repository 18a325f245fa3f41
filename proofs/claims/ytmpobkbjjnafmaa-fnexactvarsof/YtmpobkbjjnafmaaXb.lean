/-
  Lists of texts of the call's own; the specification's l16Put.
-/
import Derived.Test.YtmpobkbjjnafmaaPra
import Derived.Test.YtmpobkbjjnafmaaXa
import Derived.Laws.OwnMore
import Derived.Maps.AppendAt
import Derived.Sort.Walk0
namespace Go.Proofs.Ytmpobkbjjnafmaa.Xb
set_option maxRecDepth 8000
set_option linter.unusedSimpArgs false
set_option linter.unusedVariables false
open Go Go.ChangeShapes Go.WideShapes Go.RowKit
open Num Pl
open Xa (Sg put ins Pt)

/-- A list of texts of the call's own, in blocks from B on. -/
def OS (w : World) (B : Nat) (v : Value) (T : List ByteArray) : Prop := w.ownsRow B 9 1 v T.length (T.map Value.string)
def tl (T : List ByteArray) : List Sg := T.map (·.toList)
theorem tl_len (T : List ByteArray) : (tl T).length = T.length := by simp [tl]
theorem tl_app (T : List ByteArray) (x : ByteArray) : tl (T ++ [x]) = tl T ++ [x.toList] := by simp [tl]
theorem tl_at {T : List ByteArray} {k : Nat} (h : k < T.length) : (tl T)[k]'(by rw [tl_len]; exact h) = (T.getD k ⟨#[]⟩).toList := by simp [tl, List.getD, h]
theorem toList_inj {a b : ByteArray} (h : a.toList = b.toList) : a = b := by
  rw [Go.Lib.toList_data, Go.Lib.toList_data] at h
  exact ByteArray.ext (Array.ext' h)
theorem less_eq (a b : ByteArray) : Op.bytesLess a.toList b.toList = decide (a.toList < b.toList) := bytesLess_eq _ _
variable {w w' : World} {B : Nat} {v : Value} {T : List ByteArray}
theorem OS.nil (w : World) (B : Nat) : OS w B (.slice none 0 0) [] := World.ownsRow_nil w B 9 1
theorem OS.empty {g : Nat} (k : w.heap[g]? = some (.cells #[] 9 (0, 0))) (hB : B ≤ g) : OS w B (.slice (some ⟨g, 0, none⟩) 0 0) [] :=
  ⟨rfl, .inr ⟨g, 0, #[], rfl, hB, k, Nat.le_refl _, by unfold maxLen; omega, rfl, rfl⟩⟩
theorem OS.lt (h : OS w B v T) {k : Nat} (hk : v.ownBlock = some k) : B ≤ k ∧ k < w.heap.size := World.ownsRow.lt h k hk
theorem OS.keep (h : OS w B v T) (hk : ∀ x, x < w.heap.size → B ≤ x → w'.heap[x]? = w.heap[x]?) : OS w' B v T := by
  refine ⟨h.1, ?_⟩
  rcases h.2 with h0 | ⟨g, cap, cur, rfl, hb, hg, rest⟩
  · exact .inl h0
  · exact .inr ⟨g, cap, cur, rfl, hb, (hk g (blk_lt hg) hb).trans hg, rest⟩
theorem OS.below (h : OS w B v T) (hb : Below w.heap.size w w') : OS w' B v T := h.keep fun x hx _ => hb.block x hx
theorem OS.mono (h : OS w B v T) {B' : Nat} (hb : B' ≤ B) : OS w B' v T := by
  refine ⟨h.1, ?_⟩
  rcases h.2 with h0 | ⟨g, cap, cur, rfl, hg, rest⟩
  · exact .inl h0
  · exact .inr ⟨g, cap, cur, rfl, Nat.le_trans hb hg, rest⟩
theorem OS.grown (h : OS w B v T) {n : Nat} {W : World} (hb : Below n W w) (hg : w.grownBy w' v.ownBlock) (hn : n ≤ B) (hw : n ≤ w.heap.size) : Below n W w' :=
  hb.grown hg hw (fun j hj => Nat.le_trans hn (h.lt hj).1)
/-- The list reads as its texts. -/
theorem OS.read (h : OS w B v T) : ∃ a b c, v = .slice a T.length c ∧ T.length ≤ c ∧ c ≤ maxLen ∧ (0 < T.length → a = some ⟨b, 0, none⟩ ∧ B ≤ b ∧ ∃ cs, w.heap[b]? = some (.cells cs 9 (0, 0))) ∧ ∀ k, k < T.length → w.cell? ⟨b, k, none⟩ = some (.string (T.getD k ⟨#[]⟩)) := by
  rcases h.2 with ⟨rfl, e⟩ | ⟨g, cap, cur, rfl, hb, hh, hn, hm, hz, ht⟩
  · exact ⟨none, 0, 0, by rw [e], by omega, by unfold maxLen; omega, fun q => by omega, fun k q => by omega⟩
  · refine ⟨some ⟨g, 0, none⟩, g, cap, rfl, hn, hm, fun _ => ⟨rfl, hb, cur, hh⟩, fun k hk => ?_⟩
    have e : (cur.toList.take (T.length * 1))[k]? = (T.map Value.string)[k]? := by rw [ht]
    rw [List.getElem?_take, if_pos (by omega)] at e
    simp only [World.cell?, hh]
    rw [← Array.getElem?_toList, e]
    simp [List.getD, hk]
theorem infoSt : (Try.prog.info? 9).map (fun i => (i.zero, i.size, i.bytes)) = some (some (.string ⟨#[]⟩), 1, 16) := by kernel_rfl
theorem wpList_appS {ops : Array Oper} {rest : List Oper} {o : Oper} {a : Act} {w : World} {Q : Exit → Act → World → Prop} (hgd : o.guard = none) (s x : Operand)
    (ho : o.op = .call { callee := .builtin .append, args := #[s, x], argTypes := #[37, 37] }) (B T c : Nat) (v : Value) (L : List ByteArray) (t : ByteArray) (hs : a.eval s = v) (hx : a.eval x = .slice (some ⟨T, 0, none⟩) 1 c)
    (h0 : OS w B v L) (hB : B ≤ w.heap.size) (hT : w.heap[T]? = some (.cells #[.string t] 9 (0, 0))) (hlen : L.length ≤ 100000)
    (h : ∀ v' w', OS w' B v' (L ++ [t]) → w.grownBy w' v.ownBlock → wpList Try.prog ops Q rest (a.put o.dst v') w') : wpList Try.prog ops Q (o :: rest) a w := by
  obtain ⟨i0, hi, hz0, hz1, hz2⟩ := info_parts infoSt
  have p0 := Pl.one hT
  refine wpList_append_own w hgd s x 37 ho B 9 i0 _ 1 16 Try.underlying37 hi hz0 hz1 hz2 rfl (by decide) v L.length (L.map Value.string) hs h0 ⟨T, 0, none⟩ 1 c [.string t] hx rfl ?_ ?_ (by unfold maxLen; omega) (by omega) hB ?_
  · intro j u hj
    rw [add_eq, Nat.zero_add]
    match j, hj with
    | 0, hj => obtain rfl : _ = u := Option.some.inj hj; exact p0
    | j + 1, hj => cases hj
  · intro u hu
    obtain rfl := List.mem_singleton.1 hu
    rfl
  · intro v' w' h1 h2 _
    exact h v' w' (by unfold OS; rw [List.map_append, List.length_append]; exact h1) h2

set_option maxHeartbeats 4000000 in
theorem put_any (B : Nat) (v : Value) (T : List ByteArray) (s : ByteArray) (w : World) (h : OS w B v T) (hB : B ≤ w.heap.size) (hl : T.length ≤ 10000) :
    Calls Try.prog 56 #[v, .string s] w fun e w' => ∃ v' T', e = .returned v' ∧ Below w.heap.size w w' ∧ OS w' B v' T' ∧ tl T' = put (tl T) s.toList := by
  obtain ⟨a, b, c, rfl, hcl, hcm, hh, hc⟩ := h.read
  have HH : Hid (OS w B (.slice a T.length c) T) := h
  obtain ⟨n, hn0⟩ : ∃ n, n = T.length := ⟨_, rfl⟩
  have HP0 : Hid (Pt s.toList (tl T) 0 (tl []) false) := Pt.start _ _
  have HF : Hid (∀ k, k < n → ∀ x, x = T.getD k ⟨#[]⟩ → x.toList = s.toList → put (tl T) s.toList = tl T) := fun k hk x hx e => Xa.put_found (k := k) (by rw [tl_len]; omega) (by rw [tl_at (by omega), ← hx, e])
  have HN : Hid (∀ k O x, k < n → x = T.getD k ⟨#[]⟩ → x.toList ≠ s.toList → Pt s.toList (tl T) k (tl O) false → s.toList < x.toList → Pt s.toList (tl T) (k + 1) (tl (O ++ [s] ++ [x])) true) := fun k O x hk hx hne hp hs => by
    rw [tl_app, tl_app]; exact hp.first (by rw [tl_len]; omega) (by rw [tl_at (by omega), ← hx]) hne hs
  have HM : Hid (∀ k O x, k < n → x = T.getD k ⟨#[]⟩ → x.toList ≠ s.toList → Pt s.toList (tl T) k (tl O) true → Pt s.toList (tl T) (k + 1) (tl (O ++ [x])) true) := fun k O x hk hx hne hp => by
    rw [tl_app]; exact hp.more (by rw [tl_len]; omega) (by rw [tl_at (by omega), ← hx]) hne
  have HL : Hid (∀ k O x, k < n → x = T.getD k ⟨#[]⟩ → x.toList ≠ s.toList → Pt s.toList (tl T) k (tl O) false → ¬ s.toList < x.toList → Pt s.toList (tl T) (k + 1) (tl (O ++ [x])) false) := fun k O x hk hx hne hp hs => by
    rw [tl_app]; exact hp.less (by rw [tl_len]; omega) (by rw [tl_at (by omega), ← hx]) hne hs
  have HD : Hid (∀ O, Pt s.toList (tl T) n (tl O) true → tl O = put (tl T) s.toList) := fun O hp => by
    rw [hn0, ← tl_len] at hp; exact hp.done
  have HE : Hid (∀ O, Pt s.toList (tl T) n (tl O) false → tl (O ++ [s]) = put (tl T) s.toList) := fun O hp => by
    rw [hn0, ← tl_len] at hp; rw [tl_app]; exact hp.last
  rw [← hn0] at hcl hh hc hl HH ⊢
  generalize put (tl T) s.toList = M at HF HD HE ⊢
  obtain ⟨W1, hW1⟩ : ∃ W1, W1 = w.alloc (.cells #[] 9) := ⟨_, rfl⟩
  have B1 : Below w.heap.size w W1 := by subst hW1; exact below_alloc1 _ _
  have o1 : OS W1 w.heap.size (.slice (some ⟨w.heap.size, 0, none⟩) 0 0) [] := by subst hW1; exact OS.empty (at_new rfl) (Nat.le_refl _)
  clear h hn0
  go_enter Try.func56, Try.ntmps56
  go_wp2
  rw [← hW1]
  clear hW1
  go_loopw [5, 6, 12] (fun o d i wr => ∃ (k : Nat) (vo : Value) (O : List ByteArray) (dn : Bool), k ≤ n ∧ vo = o ∧ d = .bool dn ∧ i = .int .i64 k ∧ Below w.heap.size w wr ∧ OS wr w.heap.size vo O ∧ Pt s.toList (tl T) k (tl O) dn ∧ O.length ≤ 2 * k) (fun _ _ i _ => n - (intOf i).toNat)
  case atStart => exact ⟨0, _, [], false, Nat.zero_le _, rfl, rfl, rfl, B1, o1, HP0.out, by simp⟩
  case round =>
    obtain ⟨k, o, O, dn, hk, rfl, rfl, rfl, hbel, ho, hpt, hol⟩ := hrel
    have HPT : Hid (Pt s.toList (tl T) k (tl O) dn) := hpt
    have HOL : Hid (O.length ≤ 2 * k) := hol
    have HO : Hid (OS wr w.heap.size o O) := ho
    clear hpt hol ho HP0
    have hsz := hbel.size
    by_cases hlt : k < n
    · have hkz : (k : Int) < (n : Int) := by omega
      obtain ⟨rfl, hBb, cs, hbk⟩ := hh (by omega)
      have c0 := (hbel.cell (blk_lt hbk)).trans (hc k hlt)
      obtain ⟨x, hx⟩ : ∃ x, x = T.getD k ⟨#[]⟩ := ⟨_, rfl⟩
      have HX : Hid (x = T.getD k ⟨#[]⟩) := hx
      rw [← hx] at c0
      clear hx hc hbk hh
      by_cases he : x = s
      · have e1 : (x.toList == s.toList) = true := by rw [he]; simp
        have HV : Hid (tl T = M) := (HF.out k hlt x HX.out (by rw [he])).symm
        go_wp2
        go_ret
        exact ⟨_, T, rfl, hbel, HH.out.below hbel, HV.out⟩
      · have hne : x.toList ≠ s.toList := fun q => he (toList_inj q)
        have e1 : (x.toList == s.toList) = false := by simpa using hne
        have HNE : Hid (x.toList ≠ s.toList) := hne
        clear hne he
        cases dn with
        | true =>
          go_wp2_with (at_builtin; go_loud (refine wpList_appS rfl _ _ rfl w.heap.size _ 1 _ O x rfl rfl (HO.out.below (below_alloc1 _ _)) (by simp; omega) (at_new rfl) (by have := HOL.out; omega) ?_); intro v3 w3 ho3 hgr3; have hb3 := (HO.out.below (below_alloc1 wr (.cells #[.string x] 9))).grown (Rw.next hbel (below_alloc1 _ _)) hgr3 (Nat.le_refl _) (by simp; omega))
          go_roundw
          case rel => exact ⟨k + 1, _, O ++ [x], true, by omega, rfl, rfl, by go_num, hb3, ho3, HM.out k O x hlt HX.out HNE.out HPT.out, by have := HOL.out; simp; omega⟩
          case measure => simp [intOf]; omega
        | false =>
          cases hless : Op.bytesLess s.toList x.toList with
          | true =>
            have HS : Hid (s.toList < x.toList) := (by rw [less_eq] at hless; exact of_decide_eq_true hless : s.toList < x.toList)
            have t1 : True := trivial
            go_wp2_with (first
              | (at_builtin; clear t1; go_loud (refine wpList_appS rfl _ _ rfl w.heap.size _ 1 _ O s rfl rfl (HO.out.below (below_alloc1 _ _)) (by simp; omega) (at_new rfl) (by have := HOL.out; omega) ?_); intro v3 w3 ho3 hgr3; have hb3 := (HO.out.below (below_alloc1 wr (.cells #[.string s] 9))).grown (Rw.next hbel (below_alloc1 _ _)) hgr3 (Nat.le_refl _) (by simp; omega); have hz3 := hb3.size)
              | (at_builtin; go_loud (refine wpList_appS rfl _ _ rfl w.heap.size _ 1 _ (O ++ [s]) x rfl rfl (ho3.below (below_alloc1 _ _)) (by simp; omega) (at_new rfl) (by have := HOL.out; simp; omega) ?_); intro v4 w4 ho4 hgr4; have hb4 := (ho3.below (below_alloc1 w3 (.cells #[.string x] 9))).grown (Rw.next hb3 (below_alloc1 _ _)) hgr4 (Nat.le_refl _) (by simp; omega)))
            go_roundw
            case rel => exact ⟨k + 1, _, O ++ [s] ++ [x], true, by omega, rfl, rfl, by go_num, hb4, ho4, HN.out k O x hlt HX.out HNE.out HPT.out HS.out, by have := HOL.out; simp; omega⟩
            case measure => simp [intOf]; omega
          | false =>
            have HS : Hid (¬ s.toList < x.toList) := (by rw [less_eq] at hless; exact of_decide_eq_false hless : ¬ s.toList < x.toList)
            go_wp2_with (at_builtin; go_loud (refine wpList_appS rfl _ _ rfl w.heap.size _ 1 _ O x rfl rfl (HO.out.below (below_alloc1 _ _)) (by simp; omega) (at_new rfl) (by have := HOL.out; omega) ?_); intro v3 w3 ho3 hgr3; have hb3 := (HO.out.below (below_alloc1 wr (.cells #[.string x] 9))).grown (Rw.next hbel (below_alloc1 _ _)) hgr3 (Nat.le_refl _) (by simp; omega))
            go_roundw
            case rel => exact ⟨k + 1, _, O ++ [x], false, by omega, rfl, rfl, by go_num, hb3, ho3, HL.out k O x hlt HX.out HNE.out HPT.out HS.out, by have := HOL.out; simp; omega⟩
            case measure => simp [intOf]; omega
    · have he : k = n := by omega
      subst he
      cases dn with
      | true =>
        go_wp2
        go_ret
        exact ⟨_, O, rfl, hbel, HO.out.mono hB, HD.out O HPT.out⟩
      | false =>
        go_wp2_with (at_builtin; go_loud (refine wpList_appS rfl _ _ rfl w.heap.size _ 1 _ O s rfl rfl (HO.out.below (below_alloc1 _ _)) (by simp; omega) (at_new rfl) (by have := HOL.out; omega) ?_); intro v3 w3 ho3 hgr3; have hb3 := (HO.out.below (below_alloc1 wr (.cells #[.string s] 9))).grown (Rw.next hbel (below_alloc1 _ _)) hgr3 (Nat.le_refl _) (by simp; omega))
        go_ret
        exact ⟨_, O ++ [s], rfl, hb3, ho3.mono hB, HE.out O HPT.out⟩

end Go.Proofs.Ytmpobkbjjnafmaa.Xb
