/-
  The program's StoreBytes.
-/
import Derived.Test.YtecnbenlmbppbaaSw
import Derived.Test.YtecnbenlmbppbaaRo
import Derived.Test.YtecnbenlmbppbaaSc
namespace Go.Proofs.Ytecnbenlmbppbaa.Sw
set_option maxRecDepth 8000
set_option linter.unusedSimpArgs false
set_option linter.unusedVariables false
open Go Go.ChangeShapes Go.WideShapes Go.RowKit
open Num Word Pl Rp Rw Put
open Rl (Rm rm0 said)
open St (Nm nm0 NL told storeB)

theorem own_form {w : World} {B : Nat} {v : Value} {l : List Int} (h : OwnI w B v l) : ∃ a c, v = .slice a l.length c := by
  rcases h.2 with ⟨rfl, h0⟩ | ⟨g, cap, cur, rfl, _⟩
  · exact ⟨none, 0, by rw [h0]⟩
  · exact ⟨_, _, rfl⟩
theorem take_val {l : RowL} {i : Nat} (h : i < l.length) : l.take (i + 1) = l.take i ++ [l.getD i Vl.z2] := by
  rw [List.take_add_one]; simp [List.getD, h]
theorem take_told {T : List Nm} {i : Nat} (h : i < T.length) : (told T).take (i + 1) = (told T).take i ++ [(T.getD i nm0).l] := by
  rw [← St.told_at h, List.take_add_one]
  have h2 : i < (told T).length := by rw [St.told_len]; exact h
  simp [List.getD, h2]
theorem flat_take_len {α : Type} {f : α → List Int} : ∀ (l : List α) (i : Nat), ((l.take i).flatMap f).length ≤ (l.flatMap f).length
  | [], i => by simp
  | x :: l, 0 => by simp
  | x :: l, i + 1 => by
    have := flat_take_len (f := f) l i
    simp only [List.take_succ_cons, List.flatMap_cons, List.length_append]; omega

set_option maxHeartbeats 8000000 in
theorem rel_any (g B : Nat) (l : List Int) (ar : Int) (a : Option Addr) (b off cap : Nat) (Q : List Rm) (w : World) (h : Wr w g B l) (hB : B ≤ g) (hl : l.length ≤ 1000000) (hP : RelP ar (said Q)) (hr : ∀ W, KB g B w W → Rl.Rd W a b off Q) :
    Calls Try.prog 47 #[.pointer (some ⟨g, 0, none⟩), .agg #[.int .i64 ar, .slice a Q.length cap]] w fun e w' => e = .returned (.tuple #[]) ∧ Wr w' g B (l ++ relL ar (said Q)) ∧ KB g B w w' := by
  have lg := h.lt
  have hb1 := below_alloc1 w (.cells #[.int .i64 ar, .slice a Q.length cap] 35)
  obtain ⟨W, hW⟩ : ∃ W, W = w.alloc (.cells #[.int .i64 ar, .slice a Q.length cap] 35) := ⟨_, rfl⟩
  have k0 : W.heap[w.heap.size]? = some (.cells #[.int .i64 ar, .slice a Q.length cap] 35 (0, 0)) := by subst hW; exact at_new rfl
  rw [← hW] at hb1
  have hw0 := h.keep hb1
  have B1 : KB g B w W := (KB.refl _ _ _).next hb1 (by omega)
  have ne0 : w.heap.size ≠ g := by omega
  have hf : Q.length ≤ 300 := by have := hP.few; rw [Rl.said_len] at this; exact this
  have n1 : numOkB ar 1 = true := by have := hP.lo; have := hP.hi; rw [numOkB]; simp [pw]; omega
  have n2 : numOkB (Q.length : Int) 2 = true := by rw [numOkB]; simp [pw]; omega
  have HE : Hid (l ++ relL ar (said Q) = l ++ dg ar 1 ++ dg (Q.length : Int) 2 ++ ((said Q).take Q.length).flatMap rowL) := by
    rw [Hid, ← Rl.said_len Q, List.take_length]; simp [relL]
  have HLn : Hid ((l ++ dg ar 1 ++ dg (Q.length : Int) 2).length ≤ 1000003) := by rw [Hid]; simp [dg_len]; omega
  have HT : Hid (∀ i, i < Q.length → ((said Q).take (i + 1)).flatMap rowL = ((said Q).take i).flatMap rowL ++ rowL (Q.getD i rm0).l) := fun i hi => by rw [Rl.take_next hi]; simp
  have HC : Hid (∀ i, (((said Q).take i).flatMap rowL).length ≤ 34203) := fun i => by
    have := flat_take_len (f := rowL) (said Q) i
    have := relL_len hP
    unfold relL at this
    rw [List.length_append] at this
    omega
  have HV : Hid (∀ i, i < Q.length → (Q.getD i rm0).l.length ≤ 6 ∧ ∀ x ∈ (Q.getD i rm0).l, Vl.valB x = true) := fun i hi => by
    have hm : (Q.getD i rm0).l ∈ said Q := List.mem_map_of_mem (Rl.getD_mem hi)
    have := hP.fit _ hm; have := hP.hi
    exact ⟨by omega, hP.ok _ hm⟩
  have HR : Hid (∀ W, KB g B w W → Rl.Rd W a b off Q) := hr
  rw [HE.out]
  obtain ⟨L0, hL0⟩ : ∃ L0, L0 = l ++ dg ar 1 ++ dg (Q.length : Int) 2 := ⟨_, rfl⟩
  rw [← hL0] at HLn ⊢
  have HL0 : Hid (L0 = l ++ dg ar 1 ++ dg (Q.length : Int) 2) := hL0
  clear hr h hb1 hP HE hL0
  obtain ⟨n, hn⟩ : ∃ n, n = Q.length := ⟨_, rfl⟩
  rw [← hn] at HT HV n2 hf k0 hW HL0 ⊢
  have HN : Hid (n = Q.length) := hn
  clear hn
  have t1 : True := trivial
  go_enter Try.func47, Try.ntmps47
  go_wp2_with (first
    | (go_at_call 45; clear t1; rw [← hW]; clear hW; refine (num_any g B l ar 1 _ hw0 hB (by omega) n1 (by omega)).mono ?_; rintro e w1 ⟨rfl, hw1, BW⟩; replace B1 := B1.trans BW; replace k0 := BW.at k0 ne0; clear BW; obtain ⟨p0, p1⟩ := two k0; have t2 : True := trivial)
    | (go_at_call 45; clear t2 p0 p1; refine (num_any g B _ (n : Int) 2 _ hw1 hB (by simp [dg_len]; omega) n2 (by omega)).mono ?_; rintro e w2 ⟨rfl, hw2, BW⟩; replace B1 := B1.trans BW; replace k0 := BW.at k0 ne0; clear BW; obtain ⟨p0, p1⟩ := two k0))
  clear p0 p1 k0 hw1
  rw [← HL0.out] at hw2
  go_loopw [20] (fun i wr => ∃ k : Nat, k ≤ n ∧ i = .int .i64 k ∧ KB g B w wr ∧ Wr wr g B (L0 ++ ((said Q).take k).flatMap rowL)) (fun i _ => n - (intOf i).toNat)
  case atStart => exact ⟨0, Nat.zero_le _, rfl, B1, by simpa using hw2⟩
  case round =>
    clear B1 hw2
    obtain ⟨k, hk, rfl, B1, hw⟩ := hrel
    by_cases hlt : k < n
    · have hkz : (k : Int) < (n : Int) := by omega
      have rd := HR.out wr B1
      have hnn := HN.out
      obtain rfl := rd.head (by omega)
      have c0 := rd.cell k (by omega)
      obtain ⟨v6, vok⟩ := HV.out k hlt
      have HRk : Hid (∀ W, KB g B w W → (Q.getD k rm0).Ok W) := fun W hW => (HR.out W hW).ok k (by omega)
      have HTk : Hid (((said Q).take (k + 1)).flatMap rowL = ((said Q).take k).flatMap rowL ++ rowL (Q.getD k rm0).l) := HT.out k hlt
      have hcn := HC.out k
      clear rd hnn
      generalize Q.getD k rm0 = x at c0 v6 vok HRk HTk
      obtain ⟨xa, xb, xo, xc, xl⟩ := x
      simp only [Rm.val] at c0 v6 vok HTk
      obtain ⟨L1, hL1⟩ : ∃ L1, L1 = L0 ++ ((said Q).take k).flatMap rowL := ⟨_, rfl⟩
      have hl1 : L1.length ≤ 1034206 := by rw [hL1, List.length_append]; have := HLn.out; omega
      rw [← hL1] at hw
      have HL1 : Hid (L1 = L0 ++ ((said Q).take k).flatMap rowL) := hL1
      clear hL1 hcn
      obtain ⟨wa, hwa⟩ : ∃ wa, wa = wr := ⟨_, rfl⟩
      have lgw := hw.lt
      have hbA := below_alloc1 wr (.cells #[.slice xa xl.length xc] 70)
      have B2 : KB g B w (wr.alloc (.cells #[.slice xa xl.length xc] 70)) := B1.next hbA (by omega)
      have hw' := hw.keep hbA
      clear hbA hw
      go_wp2
      obtain ⟨m, hm⟩ : ∃ m, m = xl.length := ⟨_, rfl⟩
      generalize wr.alloc (.cells #[.slice xa xl.length xc] 70) = Wz at B2 hw' ⊢
      go_loopw [27] (fun j wi => ∃ p : Nat, p ≤ xl.length ∧ j = .int .i64 p ∧ KB g B w wi ∧ Wr wi g B (L1 ++ (xl.take p).flatMap valL)) (fun j _ => xl.length - (intOf j).toNat)
      case atStart => exact ⟨0, Nat.zero_le _, rfl, B2, by simpa using hw'⟩
      case round =>
        clear B2 hw' B1
        obtain ⟨p, hp, rfl, B2, hw'⟩ := hrel
        by_cases hpl : p < xl.length
        · have hpz : (p : Int) < (xl.length : Int) := by omega
          have vr : Vl.Rd wr xa xb xo xl := HRk.out wr B2
          obtain rfl := vr.head (by omega)
          obtain ⟨d0, d1⟩ := vr.cell p hpl
          have hv1 : Vl.valB (xl.getD p Vl.z2) = true := vok _ (by simp [List.getD, hpl])
          have HTp : Hid ((xl.take (p + 1)).flatMap valL = (xl.take p).flatMap valL ++ valL (xl.getD p Vl.z2)) := by rw [Hid, take_val hpl]; simp
          have hpl2 : ((xl.take p).flatMap valL).length ≤ 114 := by
            have := flat_take_len (f := valL) xl p
            have := rowL_len (l := xl) vok v6
            unfold rowL at this
            omega
          clear vr
          generalize xl.getD p Vl.z2 = y at d0 d1 hv1 HTp
          obtain ⟨yn, ys⟩ := y
          simp only at d0 d1
          have lgw2 := hw'.lt
          have hbA := below_alloc1 wr (.cells #[.int .i64 yn, .string ys] 72)
          have B3 : KB g B w (wr.alloc (.cells #[.int .i64 yn, .string ys] 72)) := B2.next hbA (by omega)
          have hC := value_any g B (L1 ++ (xl.take p).flatMap valL) yn ys _ (hw'.keep hbA) hB (by rw [List.length_append]; omega) hv1
          clear hbA
          go_wp2_with (go_at_call 74; refine hC.mono ?_; rintro e w5 ⟨rfl, hw5, BW5⟩)
          go_roundw
          case rel => exact ⟨p + 1, by omega, by go_num, B3.trans BW5, by rw [HTp.out, ← List.append_assoc]; exact hw5⟩
          case measure => simp [intOf]; omega
        · have he : p = xl.length := by omega
          subst he
          go_wp2
          go_roundw
          case rel =>
            refine ⟨k + 1, by omega, by go_num, B2, ?_⟩
            rw [HTk.out, ← List.append_assoc, ← HL1.out]
            simpa [rowL] using hw'
          case measure => simp [intOf]; omega
    · have he : k = n := by omega
      subst he
      go_wp2
      exact bodyPost_end (v := .tuple #[]) (by simp [results, Try.results47, go_sem]) rfl ⟨rfl, hw, B1⟩

/-- What is answered: the bytes of a right store that is not too large. -/
def BA (N : List NL) (L : List Int) (t : Bool) : Prop := if storeB N = true ∧ (storeL N).length ≤ 60000 then L = storeL N ∧ t = true else L = [] ∧ t = false
theorem BA_some (N : List NL) : ∃ L t, BA N L t ∧ L.length ≤ 60000 ∧ Byt L := by
  by_cases h : storeB N = true ∧ (storeL N).length ≤ 60000
  · exact ⟨storeL N, true, by unfold BA; rw [if_pos h]; exact ⟨rfl, rfl⟩, h.2, storeL_byt N⟩
  · exact ⟨[], false, by unfold BA; rw [if_neg h]; exact ⟨rfl, rfl⟩, by simp, byt_nil⟩
def ResY (w : World) (L : List Int) (t : Bool) (e : Ending) (w' : World) : Prop := ∃ v, e = .returned (.tuple #[v, .bool t]) ∧ OwnI w' w.heap.size v L ∧ Below w.heap.size w w'
theorem nameL_len {x : NL} (h : wordB x.1 = true) (hP : RelP x.2.1 x.2.2) : (nameL x).length ≤ 34216 := by
  have := word_small h
  have := relL_len hP
  unfold nameL textL
  rw [List.length_append, List.length_append, dg_len, sB_len]; omega
theorem storeL_len {N : List NL} (h : storeB N = true) : (N.flatMap nameL).length ≤ 821184 := by
  have := flat_len (f := nameL) (c := 34216) N (fun x hx => nameL_len (Mp.store_one h hx).1 (Mp.store_one h hx).2)
  have := Mp.store_small h
  omega

set_option maxHeartbeats 8000000 in
theorem bytesI_any (a : Option Addr) (b off cap : Nat) (T : List Nm) (w : World) (h : St.Rd w a b off T) (L : List Int) (t : Bool) (hA : BA (told T) L t) :
    Calls Try.prog 19 #[.agg #[.slice a T.length cap]] w (ResY w L t) := by
  obtain ⟨W1, hW1⟩ : ∃ W1, W1 = w.alloc (.cells #[.slice a T.length cap] 29) := ⟨_, rfl⟩
  have B1 : Below w.heap.size w W1 := by subst hW1; exact below_alloc1 _ _
  have k0 : W1.heap[w.heap.size]? = some (.cells #[.slice a T.length cap] 29 (0, 0)) := by subst hW1; exact at_new rfl
  have hS := St.okI_any a b off cap T W1 (h.below B1)
  cases hB : storeB (told T) with
  | false =>
    rw [hB] at hS
    obtain ⟨rfl, rfl⟩ : L = [] ∧ t = false := by unfold BA at hA; rw [if_neg (by simp [hB])] at hA; exact hA
    go_enter Try.func19, Try.ntmps19
    go_wp2_with (go_at_call 10; rw [← hW1]; clear hW1; refine hS.mono ?_; rintro e w1 ⟨rfl, hb⟩; replace B1 := Rw.next B1 hb)
    go_ret2
    exact ⟨_, rfl, World.ownsRow_nil _ _ _ _, B1⟩
  | true =>
    rw [hB] at hS
    have HA : Hid (if (storeL (told T)).length ≤ 60000 then L = storeL (told T) ∧ t = true else L = [] ∧ t = false) := by
      unfold BA at hA
      by_cases q : (storeL (told T)).length ≤ 60000
      · rw [Hid, if_pos q]; rw [if_pos ⟨hB, q⟩] at hA; exact hA
      · rw [Hid, if_neg q]; rw [if_neg (fun z => q z.2)] at hA; exact hA
    have hf : T.length ≤ 24 := by have := Mp.store_small hB; rw [St.told_len] at this; exact this
    have n1 : numOkB (T.length : Int) 1 = true := by rw [numOkB]; simp [pw]; omega
    have HT : Hid (∀ i, i < T.length → ((told T).take (i + 1)).flatMap nameL = ((told T).take i).flatMap nameL ++ nameL (T.getD i nm0).l) := fun i hi => by rw [take_told hi]; simp
    have HE : Hid (storeL (told T) = [] ++ dg (T.length : Int) 1 ++ ((told T).take T.length).flatMap nameL) := by
      rw [Hid, ← St.told_len T, List.take_length]; simp [storeL]
    have HC : Hid (∀ i, (((told T).take i).flatMap nameL).length ≤ 821184) := fun i => Nat.le_trans (flat_take_len _ _) (storeL_len hB)
    have HO : Hid (∀ i, i < T.length → (T.getD i nm0).s.size ≤ 12 ∧ RelP (T.getD i nm0).ar (said (T.getD i nm0).Q)) := fun i hi => by
      obtain ⟨q1, q2⟩ := Mp.store_one hB (List.mem_map_of_mem (f := Nm.l) (St.mem_at hi))
      exact ⟨word_small q1, q2⟩
    have HR : Hid (St.Rd w a b off T) := h
    clear hA hB h
    obtain ⟨n, hn⟩ : ∃ n, n = T.length := ⟨_, rfl⟩
    rw [← hn] at HT HE HO n1 hf k0 hW1 hS ⊢
    have HN : Hid (n = T.length) := hn
    clear hn
    go_enter Try.func19, Try.ntmps19
    go_wp2_with (first
      | (go_at_call 10; rw [← hW1]; clear hW1; refine hS.mono ?_; rintro e w1 ⟨rfl, hb⟩; replace B1 := Rw.next B1 hb; replace k0 := (hb.block _ (blk_lt k0)).trans k0; clear hb hS; have p0 := one k0; have lk := blk_lt k0)
      | (go_at_call 45; clear p0; obtain ⟨W2, hW2⟩ : ∃ W2, W2 = w1.alloc (.cells #[.slice none 0 0] 75) := ⟨_, rfl⟩; rw [← hW2]; have kg : W2.heap[w1.heap.size]? = some (.cells #[.slice none 0 0] 75 (0, 0)) := (by subst hW2; exact at_new rfl); have hb : Below w1.heap.size w1 W2 := (by subst hW2; exact below_alloc1 _ _); have B2 := Rw.next B1 hb; replace k0 := (hb.block _ (blk_lt k0)).trans k0; clear hW2 hb; obtain ⟨g, hg⟩ : ∃ g, g = w1.heap.size := ⟨_, rfl⟩; have hBg : w.heap.size ≤ g := (by have := B1.size; omega); have neg : w.heap.size ≠ g := (by omega); rw [← hg] at kg ⊢; clear hg; refine (num_any g w.heap.size [] (n : Int) 1 _ ⟨_, kg, World.ownsRow_nil _ _ _ _⟩ hBg (by simp) n1 (by omega)).mono ?_; rintro e w2 ⟨rfl, hw2, BW⟩; replace B2 := B2.trans BW.low; replace k0 := BW.at k0 neg; clear BW kg; have p0 := one k0))
    clear p0 k0 B1 lk
    have HL0 : Hid (([] ++ dg (n : Int) 1).length = 1) := by rw [Hid]; simp [dg_len]
    generalize [] ++ dg (n : Int) 1 = L0 at hw2 HE HL0
    go_loopw [17] (fun i wr => ∃ k : Nat, k ≤ n ∧ i = .int .i64 k ∧ Below w.heap.size w wr ∧ Wr wr g w.heap.size (L0 ++ ((told T).take k).flatMap nameL)) (fun i _ => n - (intOf i).toNat)
    case atStart => exact ⟨0, Nat.zero_le _, rfl, B2, by simpa using hw2⟩
    case round =>
      clear B2 hw2
      obtain ⟨k, hk, rfl, B2, hw⟩ := hrel
      have hLk : (L0 ++ ((told T).take k).flatMap nameL).length ≤ 821185 := by rw [List.length_append]; have := HC.out k; have := HL0.out; omega
      by_cases hlt : k < n
      · have hkz : (k : Int) < (n : Int) := by omega
        have hnn := HN.out
        obtain rfl := HR.out.head (by omega)
        obtain ⟨c0, c1, c2⟩ := St.At3.of (HR.out.cell k (by omega)) B2 (HR.out.cell k (by omega)).lt
        have okx : (T.getD k nm0).Ok w := HR.out.ok k (by omega)
        obtain ⟨o1, o2⟩ := HO.out k hlt
        have HTk : Hid (((told T).take (k + 1)).flatMap nameL = ((told T).take k).flatMap nameL ++ nameL (T.getD k nm0).l) := HT.out k hlt
        clear hnn
        generalize T.getD k nm0 = x at c0 c1 c2 okx o1 o2 HTk
        obtain ⟨xs, xr, xa, xb, xo, xc, xQ⟩ := x
        simp only [Nm.l] at c0 c1 c2 o1 o2 HTk
        have okx' : Rl.Rd w xa xb xo xQ := okx
        obtain ⟨L1, hL1⟩ : ∃ L1, L1 = L0 ++ ((told T).take k).flatMap nameL := ⟨_, rfl⟩
        rw [← hL1] at hw hLk
        have HL1 : Hid (L1 = L0 ++ ((told T).take k).flatMap nameL) := hL1
        have lgw := hw.lt
        obtain ⟨W3, hW3⟩ : ∃ W3, W3 = wr.alloc (.cells #[.string xs, .int .i64 xr, .slice xa xQ.length xc] 51) := ⟨_, rfl⟩
        have kx : W3.heap[wr.heap.size]? = some (.cells #[.string xs, .int .i64 xr, .slice xa xQ.length xc] 51 (0, 0)) := by subst hW3; exact at_new rfl
        have hb : Below wr.heap.size wr W3 := by subst hW3; exact below_alloc1 _ _
        have hwx := hw.keep hb
        have B3 := Rw.next B2 hb
        have nex : wr.heap.size ≠ g := by omega
        clear hb hL1 okx B2 hw
        go_wp2_with (first
          | (go_at_call 46; rw [← hW3]; clear hW3; refine (text_any g w.heap.size L1 xs _ hwx hBg (by omega) o1).mono ?_; rintro e w4 ⟨rfl, hw4, BW⟩; replace B3 := B3.trans BW.low; replace kx := BW.at kx nex; clear BW hwx; obtain ⟨x0, x1, x2⟩ := St.three kx)
          | (go_at_call 47; clear x0 x1 x2; refine (rel_any g w.heap.size (L1 ++ textL xs) xr xa xb xo xc xQ _ hw4 hBg (by rw [List.length_append]; simp only [textL, List.length_append, dg_len, sB_len]; omega) o2 (fun W hK => okx'.below (B3.trans hK.low))).mono ?_; rintro e w5 ⟨rfl, hw5, BW⟩; replace B3 := B3.trans BW.low; clear BW hw4))
        go_roundw
        case rel => exact ⟨k + 1, by omega, by go_num, B3, by rw [HTk.out, ← List.append_assoc, ← HL1.out]; simpa [nameL] using hw5⟩
        case measure => simp [intOf]; omega
      · have he : k = n := by omega
        subst he
        obtain ⟨v, kg, ho⟩ := hw
        obtain ⟨va, vc, rfl⟩ := own_form ho
        have q0 := one kg
        have hA := HA.out
        rw [HE.out] at hA
        generalize L0 ++ ((told T).take k).flatMap nameL = L1 at ho kg hLk hA q0
        by_cases h6 : L1.length ≤ 60000
        · rw [if_pos h6] at hA
          obtain ⟨rfl, rfl⟩ := hA
          have h6z : ¬ (L.length : Int) > 60000 := by omega
          clear HA HE
          go_wp2
          go_ret2
          exact ⟨_, rfl, ho, B2⟩
        · rw [if_neg h6] at hA
          obtain ⟨rfl, rfl⟩ := hA
          have h6z : (L1.length : Int) > 60000 := by omega
          clear HA HE
          go_wp2
          go_ret2
          exact ⟨_, rfl, World.ownsRow_nil _ _ _ _, B2⟩

end Go.Proofs.Ytecnbenlmbppbaa.Sw
