/-
  Lists of tokens of the call's own, and the program's Lex: what it answers on every text.
-/
import Derived.Test.YtpjgedhkanmbpaaDoorLj
import Derived.Laws.OwnMore
namespace Go.Proofs.YtpjgedhkanmbpaaDoor.Lo
open Go Go.RowKit
set_option maxRecDepth 8000
set_option linter.unusedVariables false
set_option linter.unusedSimpArgs false
open Lv (ch ltr cap lead varB len_eq ch_at ret_bool ret_int)
open Ly Pl Lg Lh Li Lf

def cel (t : Tk) : List Value := [.int .i64 t.k, .int .i64 t.n, .string t.s, .int .i64 t.p]
def flat (T : List Tk) : List Value := T.flatMap cel
theorem flat_app (T : List Tk) (t : Tk) : flat (T ++ [t]) = flat T ++ cel t := by simp [flat]
theorem flat_len : ∀ (T : List Tk), (flat T).length = T.length * 4
  | [] => rfl
  | t :: r => by
    have h := flat_len r
    unfold flat at h ⊢
    rw [List.flatMap_cons, List.length_append, h]
    simp [cel]
    omega
theorem flat_get : ∀ (T : List Tk) (i j : Nat) (h : i < T.length), j < 4 → (flat T)[i * 4 + j]? = (cel (T[i]'h))[j]?
  | [], i, j, h, _ => by simp at h
  | t :: r, 0, j, h, hj => by
    unfold flat
    rw [List.flatMap_cons, List.getElem?_append_left (by simp [cel]; omega)]
    simp
  | t :: r, i + 1, j, h, hj => by
    have := flat_get r i j (by simpa using h) hj
    unfold flat at this ⊢
    rw [List.flatMap_cons, List.getElem?_append_right (by simp [cel]; omega)]
    rw [show (i + 1) * 4 + j - (cel t).length = i * 4 + j by simp [cel]; omega, this]
    rfl
theorem infoT : (Tryd.prog.info? 31).map (fun i => (i.zero, i.size, i.bytes)) = some (some (.agg #[.int .i64 0, .int .i64 0, .string ⟨#[]⟩, .int .i64 0]), 4, 40) := by kernel_rfl
theorem wpList_appT {ops : Array Oper} {rest : List Oper} {o : Oper} {a : Act} {w : World} {Q : Exit → Act → World → Prop} (hgd : o.guard = none) (s x : Operand)
    (ho : o.op = .call { callee := .builtin .append, args := #[s, x], argTypes := #[22, 22] }) (B T c : Nat) (v : Value) (L : List Tk) (t : Tk) (hs : a.eval s = v) (hx : a.eval x = .slice (some ⟨T, 0, none⟩) 1 c)
    (h0 : w.ownsRow B 31 4 v L.length (flat L)) (hB : B ≤ w.heap.size) (hT : w.heap[T]? = some (.cells #[.int .i64 t.k, .int .i64 t.n, .string t.s, .int .i64 t.p] 31 (0, 0))) (hlen : L.length ≤ 100000)
    (h : ∀ v' w', w'.ownsRow B 31 4 v' (L ++ [t]).length (flat (L ++ [t])) → w.grownBy w' v.ownBlock → wpList Tryd.prog ops Q rest (a.put o.dst v') w') : wpList Tryd.prog ops Q (o :: rest) a w := by
  obtain ⟨i0, hi, hz0, hz1, hz2⟩ := info_parts infoT
  obtain ⟨p0, p1, p2, p3⟩ := four hT
  refine wpList_append_own w hgd s x 22 ho B 31 i0 _ 4 40 Tryd.underlying22 hi hz0 hz1 hz2 rfl (by decide) v L.length (flat L) hs h0 ⟨T, 0, none⟩ 1 c (cel t) hx rfl ?_ ?_ (by unfold maxLen; omega) (by omega) hB ?_
  · intro j u hj
    rw [add_eq, Nat.zero_add]
    match j, hj with
    | 0, hj => obtain rfl : _ = u := Option.some.inj hj; exact p0
    | 1, hj => obtain rfl : _ = u := Option.some.inj hj; exact p1
    | 2, hj => obtain rfl : _ = u := Option.some.inj hj; exact p2
    | 3, hj => obtain rfl : _ = u := Option.some.inj hj; exact p3
    | j + 4, hj => cases hj
  · intro u hu
    simp only [cel, List.mem_cons, List.not_mem_nil, or_false] at hu
    rcases hu with rfl | rfl | rfl | rfl <;> rfl
  · intro v' w' h1 h2 _
    exact h v' w' (by rw [flat_app, List.length_append]; exact h1) h2

theorem own_below {w w' : World} {B e size n : Nat} {v : Value} {xs : List Value} (h : w.ownsRow B e size v n xs) (hb : Below w.heap.size w w') : w'.ownsRow B e size v n xs := by
  obtain ⟨h1, h2⟩ := h
  refine ⟨h1, ?_⟩
  rcases h2 with h2 | ⟨g, cap, cur, a, b, c, d⟩
  · exact .inl h2
  · exact .inr ⟨g, cap, cur, a, b, by rw [hb.block g (blk_lt c)]; exact c, d⟩
theorem own_grown {w0 w w' : World} {e size n : Nat} {v : Value} {xs : List Value} (h : w.ownsRow w0.heap.size e size v n xs) (hb : Below w0.heap.size w0 w) (hg : w.grownBy w' v.ownBlock) : Below w0.heap.size w0 w' :=
  Below.grown hb hg hb.size (fun j hj => (h.lt j hj).1)
theorem pre_fit {s : ByteArray} {i : Nat} {p : ByteArray} (hi : i ≤ s.size) (h : pre s i p = true) : i + p.size ≤ s.size := by
  by_cases e : i + p.size ≤ s.size
  · exact e
  · rw [pre_long s i p (by omega) hi] at h; cases h
theorem sgFrom_fit {s : ByteArray} {i : Nat} (hi : i ≤ s.size) : ∀ (L : List ByteArray), i + (sgFrom s i L).size ≤ s.size
  | [] => by show i + 0 ≤ _; omega
  | p :: r => by
    unfold sgFrom
    split
    · next h => exact pre_fit hi h
    · exact sgFrom_fit hi r
theorem fst_fit {s : ByteArray} {i : Nat} (h : i < s.size) : i + (fst s i).len ≤ s.size := by
  unfold fst
  split
  · rw [let_len]
    have := ld_le s i (by omega)
    rw [ext_size s i _ (by omega) this]
    omega
  · split
    · show i + 0 ≤ _; omega
    · exact sgFrom_fit (by omega) lits
theorem fst_pos {s : ByteArray} {i : Nat} (h : i < s.size) (hc : (fst s i).code = 0) : 1 ≤ (fst s i).len := by
  unfold fst at hc ⊢
  split
  · next hp =>
    rw [let_len, ext_size s i _ (by omega) (ld_le s i (by omega))]
    omega
  · next hp =>
    rw [if_neg hp] at hc
    split
    · next hz => rw [if_pos hz] at hc; exact absurd hc (by decide)
    · next hz => show 1 ≤ (sg s i).size; omega

/-- What Lex hands back: a list of the call's own, a code and a place. -/
def ResL (w : World) (A : List Tk × Int × Int) (e : Ending) (w' : World) : Prop :=
  Below w.heap.size w w' ∧ ∃ v, w'.ownsRow w.heap.size 31 4 v A.1.length (flat A.1) ∧ e = .returned (.tuple #[v, .int .i64 A.2.1, .int .i64 A.2.2])

/-- What holds of the loop. -/
def Inv (w : World) (s : ByteArray) (v a : Value) (wr : World) : Prop :=
  ∃ (T : List Tk) (k : Nat), a = .int .i64 (k : Int) ∧ k ≤ s.size ∧ wr.ownsRow w.heap.size 31 4 v T.length (flat T) ∧ Below w.heap.size w wr ∧ LX s 0 [] = LX s k T ∧ (k < s.size → blk (ch s k) = false ∧ ch s k ≠ 35) ∧ T.length ≤ k

set_option maxHeartbeats 4000000 in
theorem lexI_any (s : ByteArray) (w : World) (hL : Laid w) (hm : s.size ≤ maxLen) :
    Calls Tryd.prog 5 #[.string s] w (ResL w (LEX s)) := by
  unfold maxLen at hm
  by_cases hbig : 6000 < s.size
  · have hz : (6000 : Int) < (s.size : Int) := by omega
    have HA : Hid (LEX s = ([], 1, 0)) := (by unfold LEX; rw [if_pos hbig] : LEX s = ([], 1, 0))
    rw [HA.out]
    go_enter Tryd.func5, Tryd.ntmps5
    go_wp2
    refine bodyPost_ret (v := .tuple #[.slice none 0 0, .int .i64 1, .int .i64 0]) (by simp [results, Tryd.results5, go_sem]) rfl ?_
    exact ⟨Below.refl _ _, _, World.ownsRow_nil _ _ _ _, rfl⟩
  have hz : ¬ (6000 : Int) < (s.size : Int) := by omega
  have hs : s.size ≤ 6000 := by omega
  have HA : Hid (LEX s = LX s 0 []) := (by unfold LEX; rw [if_neg hbig] : LEX s = LX s 0 [])
  rw [HA.out]
  clear HA hbig
  go_enter Tryd.func5, Tryd.ntmps5
  go_wp2_with (go_at_call 14; refine (place_any s 0 (Nat.zero_le _) hs _).mono ?_; rintro e w1 ⟨⟨r0, rfl, hat0⟩, hw1⟩; replace hw1 := hw1.symm; subst hw1; have HAT : Hid (At s 0 r0) := hat0; clear hat0)
  go_loopw [5, 6] (fun v a wr => Inv w s v a wr) (fun _ a _ => s.size - (intOf a).toNat)
  case atStart => exact ⟨[], r0, rfl, HAT.out.hi, World.ownsRow_nil _ _ _ _, Below.refl _ _, HAT.out.same [], HAT.out.at_, Nat.zero_le _⟩
  case round =>
    obtain ⟨T, k, rfl, hk, hown, hbel, hlx, hat, hTk⟩ := hrel
    clear HAT
    have HLX : Hid (LX s 0 [] = LX s k T) := hlx
    clear hlx
    by_cases hlt : k < s.size
    · have hkz : (k : Int) < (s.size : Int) := by omega
      obtain ⟨hb1, hb2⟩ := hat hlt
      clear hat
      have hfst := first_any s k hlt hs wr (hL.below hbel)
      have hfit := fst_fit hlt
      have HPOS : Hid ((fst s k).code = 0 → 1 ≤ (fst s k).len) := fst_pos hlt
      have HBAD : Hid ((fst s k).code ≠ 0 → LX s 0 [] = ([], (fst s k).code, (k : Int))) := fun hc => HLX.out.trans (LX_bad hlt hb1 hb2 hc T)
      have HTOK : Hid ((fst s k).code = 0 → LX s 0 [] = LX s (k + (fst s k).len) (T ++ [⟨(fst s k).k, (fst s k).n, (fst s k).s, k⟩])) := fun hc => HLX.out.trans (LX_tok hlt hb1 hb2 hc (HPOS.out hc) T)
      clear HLX hb1 hb2
      obtain ⟨F, hF⟩ : ∃ F, fst s k = F := ⟨_, rfl⟩
      rw [hF] at hfst hfit HPOS HBAD HTOK
      clear hF
      obtain ⟨K, N, S, LN, C⟩ := F
      simp only at hfst hfit HPOS HBAD HTOK
      unfold tv at hfst
      simp only at hfst
      by_cases hc : C = 0
      · subst hc
        have hpos : 1 ≤ LN := HPOS.out rfl
        have HT1 : Hid (LX s 0 [] = LX s (k + LN) (T ++ [⟨K, N, S, k⟩])) := HTOK.out rfl
        clear HPOS HBAD HTOK
        have HES : Hid (((k : Int) + (LN : Int)) = ((k + LN : Nat) : Int)) := (by omega : ((k : Int) + (LN : Int)) = ((k + LN : Nat) : Int))
        have HOWN : Hid (wr.ownsRow w.heap.size 31 4 _ T.length (flat T)) := hown
        clear hown
        go_wp2_with (first
          | (go_at_call 15; refine hfst.mono ?_; rintro e w2 ⟨rfl, hb2⟩; have ho2 := own_below HOWN.out hb2; have hbel2 := Rw.next hbel hb2)
          | (at_builtin; go_loud (refine wpList_appT rfl _ _ rfl w.heap.size _ 1 _ T ⟨K, N, S, k⟩ rfl rfl ((ho2.alloc _).alloc _) (by have := hbel2.size; simp; omega) (at_new (by simp)) (by omega) ?_); intro v3 w3 hown3 hgr3; have hbel3 := own_grown ((ho2.alloc _).alloc _) (Rw.next hbel2 (below_alloc2 _ _ _)) hgr3)
          | (go_at_call 14; rw [HES.out]; refine (place_any s (k + LN) hfit hs _).mono ?_; rintro e w4 ⟨⟨r1, rfl, hat1⟩, hw4⟩; replace hw4 := hw4.symm; subst hw4; have HAT : Hid (At s (k + LN) r1) := hat1; clear hat1))
        go_roundw
        case rel => exact ⟨T ++ [⟨K, N, S, k⟩], r1, rfl, HAT.out.hi, hown3, hbel3, HT1.out.trans (HAT.out.same _), HAT.out.at_, by have := HAT.out.lo; simp; omega⟩
        case measure => have := HAT.out.lo; simp [intOf]; omega
      · have HB : Hid (LX s 0 [] = ([], C, (k : Int))) := HBAD.out hc
        clear HPOS HBAD HTOK
        have hcz : (C == 0) = false := by simpa using hc
        go_wp2_with (go_at_call 15; refine hfst.mono ?_; rintro e w2 ⟨rfl, hb2⟩)
        refine bodyPost_ret (v := .tuple #[.slice none 0 0, .int .i64 C, .int .i64 (k : Int)]) (by simp [results, Tryd.results5, go_sem]) rfl ?_
        rw [HB.out]
        exact ⟨Rw.next (Rw.next hbel hb2) (below_alloc1 _ _), _, World.ownsRow_nil _ _ _ _, rfl⟩
    · have hkz : ¬ (k : Int) < (s.size : Int) := by omega
      have HE : Hid (LX s 0 [] = (T, 0, 0)) := HLX.out.trans (LX_end (by omega) T)
      go_wp2
      refine bodyPost_ret (v := .tuple #[_, .int .i64 0, .int .i64 0]) (by simp [results, Tryd.results5, go_sem]; rfl) rfl ?_
      rw [HE.out]
      exact ⟨hbel, _, hown, rfl⟩

end Go.Proofs.YtpjgedhkanmbpaaDoor.Lo
