/-
  Marks in a rule; marks and likeness of lists of texts.
-/
import Derived.Test.YtmpobkbjjnafmaaXh
import Derived.Test.YtmpobkbjjnafmaaXb
namespace Go.Proofs.Ytmpobkbjjnafmaa.Xi
set_option maxRecDepth 8000
set_option linter.unusedSimpArgs false
set_option linter.unusedVariables false
open Go Go.ChangeShapes Go.WideShapes Go.RowKit
open Num Pl
open Pm (Tm tm0 Lm lm0 Rm Atm kdTm kdLm kdRm Rd Sl told)
open Xg (Fr)
open Xb (OS tl tl_len tl_app)

theorem rule4 {w : World} {g : Nat} {a b c d : Value} {t : TypeId} {fr : Nat × Nat} (h : w.heap[g]? = some (.cells #[a, b, c, d] t fr)) : w.cell? ⟨g, 0, none⟩ = some a ∧ w.cell? ⟨g, 1, none⟩ = some b ∧ w.cell? ⟨g, 2, none⟩ = some c ∧ w.cell? ⟨g, 3, none⟩ = some d := by
  simp [World.cell?, h]
set_option maxHeartbeats 1000000 in
theorem markRm_any (lo hi : Nat) (wc w : World) (x : Rm) (h : x.Ok lo wc) (hb : Below wc.heap.size wc w) (hlo : lo ≠ 0) (hhi : wc.heap.size ≤ hi) (hl : x.wt ≤ 1048576) (hw : hi ≤ w.heap.size) :
    Calls Try.prog 16 #[.agg #[.int .i64 x.k, .string x.h.s, .slice x.h.A.a x.h.A.Q.length x.h.A.c, .slice x.B.a x.B.Q.length x.B.c], .int .i64 1] w fun e w' => ∃ K : Nat, e = .returned (.int .i64 K) ∧ Fr lo hi w w' := by
  have hA : x.h.A.Q.length ≤ 1048576 := by unfold Rm.wt Atm.wt Pm.wtS at hl; omega
  have hB : Pm.wtS kdLm x.B.Q ≤ 1048576 := by unfold Rm.wt at hl; omega
  obtain ⟨W1, hW1⟩ : ∃ W1, W1 = w.alloc (.cells #[.int .i64 x.k, .string x.h.s, .slice x.h.A.a x.h.A.Q.length x.h.A.c, .slice x.B.a x.B.Q.length x.B.c] 41) := ⟨_, rfl⟩
  have b1 : Below w.heap.size w W1 := by subst hW1; exact below_alloc1 _ _
  have F0 : Fr lo hi w W1 := (Fr.refl lo hi w).next b1
  have k0 : W1.heap[w.heap.size]? = some (.cells #[.int .i64 x.k, .string x.h.s, .slice x.h.A.a x.h.A.Q.length x.h.A.c, .slice x.B.a x.B.Q.length x.B.c] 41 (0, 0)) := by subst hW1; exact at_new rfl
  have hb1 := Rw.next hb b1
  have hC : Calls Try.prog 37 #[.agg #[.string x.h.s, .slice x.h.A.a x.h.A.Q.length x.h.A.c], .int .i64 1] W1 fun e w' => e = .returned (.int .i64 ((1 + 3 * x.h.A.Q.length : Nat) : Int)) ∧ Fr lo hi W1 w' := Xh.markAt_any lo hi wc W1 x.h h.1 hb1 hlo hhi hA 1 (by decide) (by omega) W1 (Fr.refl _ _ _)
  obtain ⟨K1, hK1⟩ : ∃ K1, K1 = 1 + 3 * x.h.A.Q.length := ⟨_, rfl⟩
  rw [← hK1] at hC
  have hp : 0 < K1 := by omega
  have hk2 : K1 ≤ 10000000 := by omega
  have hD := fun W (F : Fr lo hi W1 W) => Xh.markLms_any lo hi wc W1 x.B h.2 hb1 hlo hhi hB K1 hp hk2 W F
  generalize K1 + Xh.cntL x.B.Q x.B.Q.length = K2 at hD
  have l1 := blk_lt k0
  clear hK1 hA hB h hb hb1 b1
  go_enter Try.func16, Try.ntmps16
  obtain ⟨p0, p1, p2, p3⟩ := rule4 k0
  have t1 : True := trivial
  rw [hW1] at p0 p1 p2 p3
  go_wp2_with (first
    | (go_at_call 37; clear t1 p0 p1 p2 p3; rw [← hW1]; clear hW1; refine hC.mono ?_; rintro e w1 ⟨rfl, F1⟩; have k1 := (F1.out _ l1 (by omega)).trans k0; obtain ⟨p0, p1, p2, p3⟩ := rule4 k1)
    | (go_at_call 38; clear p0 p1 p2 p3; refine (hD _ F1).mono ?_; rintro e w2 ⟨rfl, F2⟩))
  go_ret
  exact ⟨K2, rfl, F0.trans F2⟩
theorem below_put {m : Nat} {W w w1 : World} {a : Addr} {u : Value} (h : Below m W w) (hb : Below w.heap.size w w1) (ha : m ≤ a.block) (hm : m ≤ w.heap.size) : Below m W (w1.setCell a u) := (h.trans (hb.mono hm)).setCell ha u
/-- The texts of marks from 1 on. -/
def marks (n : Nat) : List ByteArray := (List.range n).map fun i => Mt.mt (1 + i)
theorem marks_len (n : Nat) : (marks n).length = n := by simp [marks]
theorem marks_at {n i : Nat} (h : i < n) : (marks n).getD i ⟨#[]⟩ = Mt.mt (1 + i) := by simp [marks, List.getD, h]
/-- Marks up to place i, behind it what was there. -/
def mix (T : List ByteArray) (i : Nat) : List ByteArray := (List.range T.length).map fun j => if j < i then Mt.mt (1 + j) else T.getD j ⟨#[]⟩
theorem mix_len (T : List ByteArray) (i : Nat) : (mix T i).length = T.length := by simp [mix]
theorem mix_zero (T : List ByteArray) : mix T 0 = T := by
  apply List.ext_getElem
  · simp [mix]
  · intro i h1 h2
    simp [mix, List.getD, h2]
theorem mix_all (T : List ByteArray) : mix T T.length = marks T.length := by
  apply List.ext_getElem
  · simp [mix, marks]
  · intro i h1 h2
    have : i < T.length := by simpa [mix] using h1
    simp [mix, marks, this]
theorem mix_step (T : List ByteArray) (i : Nat) : mix T (i + 1) = (mix T i).set i (Mt.mt (1 + i)) := by
  apply List.ext_getElem
  · simp [mix]
  · intro j h1 h2
    have hj : j < T.length := by simpa [mix] using h1
    rw [List.getElem_set]
    by_cases e : i = j
    · subst e; simp [mix]
    · rw [if_neg e]
      simp only [mix, List.getElem_map, List.getElem_range]
      by_cases q : j < i
      · rw [if_pos (by omega), if_pos q]
      · rw [if_neg (by omega), if_neg q]
theorem os_set {w : World} {B g n c i : Nat} {T : List ByteArray} {x : ByteArray} (h : OS w B (.slice (some ⟨g, 0, none⟩) n c) T) (hi : i < T.length) : OS (w.setCell ⟨g, i, none⟩ (.string x)) B (.slice (some ⟨g, 0, none⟩) n c) (T.set i x) := by
  have h1 := h.1
  refine ⟨by simp, ?_⟩
  rcases h.2 with ⟨e, _⟩ | ⟨g1, cap, cur, e, hb, hg, hn, hm, hz, ht⟩
  · cases e
  · injection e with e1 e2 e3
    injection e1 with e1
    injection e1 with e1
    subst e1 e2 e3
    refine .inr ⟨g, c, cur.setIfInBounds i (.string x), by simp, hb, by simp [World.setCell, Array.getElem?_modify, hg], by simpa using hn, hm, by simp [hz], ?_⟩
    rw [List.length_set, Array.toList_setIfInBounds, List.take_set, ht, List.map_set]
theorem os_cell {w : World} {B g n c i : Nat} {T : List ByteArray} (h : OS w B (.slice (some ⟨g, 0, none⟩) n c) T) (hi : i < T.length) : w.cell? ⟨g, i, none⟩ = some (.string (T.getD i ⟨#[]⟩)) ∧ w.frozen? ⟨g, i, none⟩ = false ∧ B ≤ g ∧ g < w.heap.size := by
  rcases h.2 with ⟨e, _⟩ | ⟨g1, cap, cur, e, hb, hg, hn, hm, hz, ht⟩
  · cases e
  · injection e with e1 e2 e3
    injection e1 with e1
    injection e1 with e1
    subst e1
    refine ⟨?_, by simp [World.frozen?, hg], hb, blk_lt hg⟩
    have q : (cur.toList.take (T.length * 1))[i]? = (T.map Value.string)[i]? := by rw [ht]
    rw [List.getElem?_take, if_pos (by omega)] at q
    simp only [World.cell?, hg]
    rw [← Array.getElem?_toList, q]
    simp [List.getD, hi]
theorem os_form {w : World} {B : Nat} {v : Value} {T : List ByteArray} (h : OS w B v T) : (v = .slice none 0 0 ∧ T = []) ∨ ∃ g c, v = .slice (some ⟨g, 0, none⟩) T.length c := by
  rcases h.2 with ⟨e, q⟩ | ⟨g1, cap, cur, e, _⟩
  · exact .inl ⟨e, List.eq_nil_of_length_eq_zero q⟩
  · exact .inr ⟨g1, cap, e⟩

set_option maxHeartbeats 2000000 in
theorem markStr_any (B : Nat) (v : Value) (T : List ByteArray) (w : World) (h : OS w B v T) (hl : T.length ≤ 1000) :
    Calls Try.prog 17 #[v, .int .i64 1] w fun e w' => e = .returned (.int .i64 ((1 + T.length : Nat) : Int)) ∧ OS w' B v (marks T.length) ∧ w.heap.size ≤ w'.heap.size ∧ ∀ n W, n ≤ B → n ≤ w.heap.size → Below n W w → Below n W w' := by
  rcases os_form h with ⟨rfl, rfl⟩ | ⟨g, c, rfl⟩
  · go_enter Try.func17, Try.ntmps17
    go_wp2
    go_loopw [1, 5] (fun q i wr => q = .int .i64 1 ∧ i = .int .i64 0 ∧ wr = w) (fun _ i _ => 0)
    case atStart => exact ⟨rfl, rfl, rfl⟩
    case round =>
      obtain ⟨rfl, rfl, rfl⟩ := hrel
      go_wp2
      go_ret
      exact ⟨rfl, h, Nat.le_refl _, fun _ _ _ _ hb => hb⟩
  obtain ⟨n, hn0⟩ : ∃ n, n = T.length := ⟨_, rfl⟩
  have HN : Hid (n = T.length) := hn0
  have HS : Hid (∀ i, mix T (i + 1) = (mix T i).set i (Mt.mt (1 + i))) := fun i => mix_step T i
  have HAL : Hid (mix T n = marks n) := by rw [Hid, hn0]; exact mix_all T
  have HL : Hid (∀ i, (mix T i).length = n) := fun i => by rw [mix_len, hn0]
  have H0 : Hid (OS w B (.slice (some ⟨g, 0, none⟩) n c) (mix T 0)) := by rw [Hid, mix_zero, hn0]; exact h
  rw [← hn0] at hl ⊢
  clear h hn0
  go_enter Try.func17, Try.ntmps17
  go_wp2
  go_loopw [1, 5] (fun q i wr => ∃ k K0 : Nat, k ≤ n ∧ K0 = 1 + k ∧ q = .int .i64 K0 ∧ i = .int .i64 k ∧ OS wr B (.slice (some ⟨g, 0, none⟩) n c) (mix T k) ∧ w.heap.size ≤ wr.heap.size ∧ ∀ m W, m ≤ B → m ≤ w.heap.size → Below m W w → Below m W wr) (fun _ i _ => n - (intOf i).toNat)
  case atStart => exact ⟨0, 1, Nat.zero_le _, rfl, rfl, rfl, H0.out, Nat.le_refl _, fun _ _ _ _ hb => hb⟩
  case round =>
    obtain ⟨k, K0, hk, hK, rfl, rfl, ho, hsz, hbel⟩ := hrel
    have HK0 : Hid (K0 = 1 + k) := hK
    have HO : Hid (OS wr B (.slice (some ⟨g, 0, none⟩) n c) (mix T k)) := ho
    have HB : Hid (∀ m W, m ≤ B → m ≤ w.heap.size → Below m W w → Below m W wr) := hbel
    have b0 : K0 ≤ 2000 := by omega
    have hp : 0 < K0 := by omega
    clear ho hbel H0 hK
    by_cases hlt : k < n
    · have hkz : (k : Int) < (n : Int) := by omega
      obtain ⟨K1, hK1⟩ : ∃ K, K = K0 + 1 := ⟨_, rfl⟩
      have e1 : (K0 : Int) + 1 = (K1 : Int) := by omega
      have HK1 : Hid (K1 = K0 + 1) := hK1
      have b1 : K1 ≤ 3000 := by omega
      clear hK1
      go_wp2_with (go_at_call 39; refine (Mt.text_any K0 hp (by omega) _).mono ?_; rintro e w1 ⟨rfl, hb⟩; have o1 := HO.out.below hb; obtain ⟨p, f, hBg, hgl⟩ := os_cell (i := k) o1 (by have := HL.out k; omega); have hs1 := hb.size)
      go_roundw
      case rel =>
        refine ⟨k + 1, K1, by omega, by have := HK0.out; have := HK1.out; omega, rfl, by go_num, ?_, by simp; omega, fun m W h1 h2 h3 => below_put (HB.out m W h1 h2 h3) hb (Nat.le_trans h1 hBg) (by omega)⟩
        rw [HS.out, ← HK0.out]; exact os_set o1 (by have := HL.out k; omega)
      case measure => simp [intOf]; omega
    · have he : k = n := by omega
      subst he
      have HF : Hid (K0 = 1 + k) := HK0.out
      have HV : Hid (OS wr B (.slice (some ⟨g, 0, none⟩) k c) (marks k)) := by rw [Hid, ← HAL.out]; exact HO.out
      go_wp2
      go_ret
      exact ⟨by rw [HF.out]; rfl, HV.out, hsz, HB.out⟩

set_option maxHeartbeats 2000000 in
theorem heldStr_any (B : Nat) (v : Value) (n : Nat) (w : World) (h : OS w B v (marks n)) (hl : n ≤ 1000) :
    Calls Try.prog 18 #[v, .int .i64 1] w fun e w' => e = .returned (.int .i64 ((1 + n : Nat) : Int)) ∧ Below w.heap.size w w' := by
  rcases os_form h with ⟨rfl, q⟩ | ⟨g, c, rfl⟩
  · have hn : n = 0 := by rw [← marks_len n, q]; rfl
    subst hn
    go_enter Try.func18, Try.ntmps18
    go_wp2
    go_loopw [1, 5] (fun q i wr => q = .int .i64 1 ∧ i = .int .i64 0 ∧ wr = w) (fun _ i _ => 0)
    case atStart => exact ⟨rfl, rfl, rfl⟩
    case round =>
      obtain ⟨rfl, rfl, rfl⟩ := hrel
      go_wp2
      go_ret
      exact ⟨rfl, Below.refl _ _⟩
  have HL : Hid ((marks n).length = n) := marks_len n
  have H : Hid (OS w B (.slice (some ⟨g, 0, none⟩) (marks n).length c) (marks n)) := h
  have HA : Hid (∀ i, i < n → (marks n).getD i ⟨#[]⟩ = Mt.mt (1 + i)) := fun i hi => marks_at hi
  rw [HL.out] at H ⊢
  clear h
  go_enter Try.func18, Try.ntmps18
  go_wp2
  go_loopw [1, 5] (fun q i wr => ∃ k K0 : Nat, k ≤ n ∧ K0 = 1 + k ∧ q = .int .i64 K0 ∧ i = .int .i64 k ∧ Below w.heap.size w wr) (fun _ i _ => n - (intOf i).toNat)
  case atStart => exact ⟨0, 1, Nat.zero_le _, rfl, rfl, rfl, Below.refl _ _⟩
  case round =>
    obtain ⟨k, K0, hk, hK, rfl, rfl, hbel⟩ := hrel
    have HK0 : Hid (K0 = 1 + k) := hK
    have b0 : K0 ≤ 2000 := by omega
    have hp : 0 < K0 := by omega
    clear hK
    by_cases hlt : k < n
    · have hkz : (k : Int) < (n : Int) := by omega
      obtain ⟨p, _, _, hgl⟩ := os_cell (i := k) H.out (by have := HL.out; omega)
      rw [HA.out k hlt, ← HK0.out] at p
      replace p := (hbel.cell hgl).trans p
      have hgl2 := Nat.lt_of_lt_of_le hgl hbel.size
      clear hgl
      obtain ⟨K1, hK1⟩ : ∃ K, K = K0 + 1 := ⟨_, rfl⟩
      have e1 : (K0 : Int) + 1 = (K1 : Int) := by omega
      have HK1 : Hid (K1 = K0 + 1) := hK1
      have b1 : K1 ≤ 3000 := by omega
      have hT := fun W => Mt.text_any K0 hp (by omega) W
      clear hK1
      go_wp2
      go_region_held3 (fun w' => w'.cell? ⟨g, k, none⟩ = some (.string (Mt.mt K0))) (go_keep) (first
        | (go_at_call 39; refine (hT _).mono ?_; rintro e w1 ⟨rfl, hb⟩; replace hb := Rw.next ((Below.refl _ _).drew) hb; replace p := (hb.cell hgl2).trans p; replace hbel := Rw.next hbel hb; clear hb hgl2))
      go_wp2
      go_roundw
      case rel => exact ⟨k + 1, K1, by omega, by have := HK0.out; have := HK1.out; omega, rfl, by go_num, hbel⟩
      case measure => simp [intOf]; omega
    · have he : k = n := by omega
      subst he
      have HF : Hid (K0 = 1 + k) := HK0.out
      go_wp2
      go_ret
      exact ⟨by rw [HF.out]; rfl, hbel⟩
set_option maxHeartbeats 2000000 in
theorem eqStr_same (B B' : Nat) (v v' : Value) (T T' : List ByteArray) (w : World) (h : OS w B v T) (h' : OS w B' v' T') (e : tl T = tl T') (hl : T.length ≤ 1000) :
    Calls Try.prog 14 #[v, v'] w fun e w' => e = .returned (.bool true) ∧ Below w.heap.size w w' := by
  have e2 : T = T' := by
    have hlen : T.length = T'.length := by rw [← tl_len T, e, tl_len]
    apply List.ext_getElem hlen
    intro i h1 h2
    have q : (tl T)[i]? = (tl T')[i]? := by rw [e]
    simp only [tl, List.getElem?_map, List.getElem?_eq_getElem h1, List.getElem?_eq_getElem h2, Option.map_some, Option.some.injEq] at q
    exact Xb.toList_inj q
  subst e2
  obtain ⟨a, b, c, rfl, _, _, hh, hc⟩ := h.read
  obtain ⟨a', b', c', rfl, _, _, hh', hc'⟩ := h'.read
  obtain ⟨n, hn0⟩ : ∃ n, n = T.length := ⟨_, rfl⟩
  rw [← hn0] at hl hh hh' hc hc' ⊢
  clear hn0 h h' e
  go_enter Try.func14, Try.ntmps14
  go_wp2
  go_loopw [5] (fun i wr => ∃ k : Nat, k ≤ n ∧ i = .int .i64 k ∧ Below w.heap.size w wr) (fun i _ => n - (intOf i).toNat)
  case atStart => exact ⟨0, Nat.zero_le _, rfl, Below.refl _ _⟩
  case round =>
    obtain ⟨k, hk, rfl, hbel⟩ := hrel
    by_cases hlt : k < n
    · have hkz : (k : Int) < (n : Int) := by omega
      obtain ⟨rfl, _, cs, hb⟩ := hh (by omega)
      obtain ⟨rfl, _, cs', hb'⟩ := hh' (by omega)
      have p := (hbel.cell (blk_lt hb)).trans (hc k hlt)
      have p' := (hbel.cell (blk_lt hb')).trans (hc' k hlt)
      clear hc hc' hh hh' hb hb'
      go_wp2
      go_region_held3 (fun w' => w'.cell? ⟨b, k, none⟩ = some (.string (T.getD k ⟨#[]⟩)) ∧ w'.cell? ⟨b', k, none⟩ = some (.string (T.getD k ⟨#[]⟩))) (go_keep) (fail)
      go_wp2
      go_roundw
      case rel => exact ⟨k + 1, by omega, by go_num, Rw.next hbel ((Below.refl _ _).drew)⟩
      case measure => simp [intOf]; omega
    · have he : k = n := by omega
      subst he
      go_wp2
      go_ret
      exact ⟨rfl, hbel⟩

end Go.Proofs.Ytmpobkbjjnafmaa.Xi
