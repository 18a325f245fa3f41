/-
  The specification's StoreBytes.
-/
import Derived.Test.YtecnbenlmbppbaaSx
import Derived.Test.YtecnbenlmbppbaaSf
import Derived.Laws.IdiomStrings
namespace Go.Proofs.Ytecnbenlmbppbaa.Sw
set_option maxRecDepth 8000
set_option linter.unusedSimpArgs false
set_option linter.unusedVariables false
open Go Go.ChangeShapes Go.WideShapes Go.RowKit
open Num Word Pl Rp Rw Put
open Rl (Rm rm0 said)
open St (Nm nm0 NL told storeB)

section
variable {ops : Array Oper} {rest : List Oper} {o : Oper} {a : Act} {Q : Exit → Act → World → Prop}
theorem wpList_ownI {w : World} (hgd : o.guard = none) (s x : Operand) (ho : o.op = .call { callee := .builtin .append, args := #[s, x], argTypes := #[42, 42] }) (B : Nat) (v : Value) (l m : List Int) (hs : a.eval s = v) (hown : OwnI w B v l)
    (A : Option Addr) (b off c : Nat) (hx : a.eval x = .slice A m.length c) (hr : Rw.Rd w A b off m) (hb : l.length + m.length ≤ 8388608) (hB : B ≤ w.heap.size)
    (h : ∀ v' w', OwnI w' B v' (l ++ m) → w.grownBy w' v.ownBlock → wpList Try.prog ops Q rest (a.put o.dst v') w') : wpList Try.prog ops Q (o :: rest) a w := by
  obtain ⟨v', w', hrun, h1, h2⟩ := run_app (c := c) o.type hown hr hb hB
  exact Hn.wpList_run hgd (Hn.exec_app s x ho hs hx hrun) (h v' w' h1 h2)
theorem rd_bytes {w : World} {n : Nat} {s : ByteArray} {c : Nat} (hs : s.size ≤ 4194304) {fr : Nat × Nat} (h : w.heap[n]? = some (.cells (bytesRow s c) 5 fr)) : Rw.Rd w (some ⟨n, 0, none⟩) n 0 (sB s) := by
  refine ⟨fun _ => rfl, fun i hi => ?_, by rw [sB_len]; exact hs, sB_byt s⟩
  rw [sB_len] at hi
  have hi2 : i < s.data.size := hi
  have e0 : s.data[i]? = some (s.data[i]'hi2) := Array.getElem?_eq_getElem hi2
  have e : (bytesRow s c)[i]? = some (.int .u8 ((s.data[i]'hi2).toNat : Int)) := by
    unfold bytesRow
    rw [Array.getElem?_append_left (by simpa using hi2), Array.getElem?_map, e0]; rfl
  simp [World.cell?, h, e, sB, List.getD, e0]
theorem wpList_bytes {w : World} (hgd : o.guard = none) (x : Operand) (ho : o.op = .convert 9 42 x) (s : ByteArray) (hx : a.eval x = .string s) (hs : s.size ≤ 4194304)
    (h : ∀ c w', Below w.heap.size w w' → Rw.Rd w' (some ⟨w.heap.size, 0, none⟩) w.heap.size 0 (sB s) → wpList Try.prog ops Q rest (a.put o.dst (.slice (some ⟨w.heap.size, 0, none⟩) (sB s).length c)) w') : wpList Try.prog ops Q (o :: rest) a w := by
  have hrun := run_bytes_of_string (P := Try.prog) w 9 42 5 s Try.underlying9 Try.underlying42 Try.underlying5
  rw [← sB_len s] at hrun
  have hrun2 : (execOp a.eval o).run Try.prog w = .ok (.value (.slice (some ⟨w.heap.size, 0, none⟩) (sB s).length (grownCap w (sB s).length 0 5))) (w.drew.alloc (.cells (bytesRow s (grownCap w (sB s).length 0 5)) 5 ((bytesRow s (grownCap w (sB s).length 0 5)).size, (bytesRow s (grownCap w (sB s).length 0 5)).size + 1))) := by
    unfold execOp
    simp only [ho, hx, Sem.run_bind, hrun, Result.andThen_ok, Sem.run_pure]
  refine Hn.wpList_run hgd hrun2 (h _ _ ?_ (rd_bytes hs (heap_alloc_new _ _)))
  exact ((Below.refl _ _).drew).alloc (Nat.le_refl _) _
end
theorem rd_one {w : World} {g : Nat} {x : Int} {t : TypeId} (h : w.heap[g]? = some (.cells #[.int .u8 x] t (0, 0))) (hx : 0 ≤ x ∧ x ≤ 255) : Rw.Rd w (some ⟨g, 0, none⟩) g 0 [x] := by
  refine ⟨fun _ => rfl, fun i hi => ?_, by simp, fun n hn => by simp at hn; subst hn; omega⟩
  have : i = 0 := by simp at hi; omega
  subst this
  simp [World.cell?, h]

theorem rd_three {w : World} {g : Nat} {x y z : Int} {t : TypeId} (h : w.heap[g]? = some (.cells #[.int .u8 x, .int .u8 y, .int .u8 z] t (0, 0))) (hx : 0 ≤ x ∧ x ≤ 255) (hy : 0 ≤ y ∧ y ≤ 255) (hz : 0 ≤ z ∧ z ≤ 255) : Rw.Rd w (some ⟨g, 0, none⟩) g 0 [x, y, z] := by
  refine ⟨fun _ => rfl, fun i hi => ?_, by simp, fun n hn => by simp at hn; omega⟩
  have : i = 0 ∨ i = 1 ∨ i = 2 := by simp at hi; omega
  rcases this with rfl | rfl | rfl <;> simp [World.cell?, h]
theorem own_one (w : World) {B : Nat} (hB : B ≤ w.heap.size) (x : Int) : OwnI (w.alloc (.cells #[.int .u8 x] 5)) B (.slice (some ⟨w.heap.size, 0, none⟩) 1 1) [x] :=
  ⟨by simp, .inr ⟨w.heap.size, 1, #[.int .u8 x], rfl, hB, at_new rfl, by simp, by decide, by simp, by simp⟩⟩
theorem dg1 {N : Nat} (h : N < 256) : dg (N : Int) 1 = [(N : Int)] := by
  have e : digs N 1 1 = [dig N 1 0] := by simp [digs]
  unfold dg
  rw [Int.toNat_natCast, e]
  have : N % 256 = N := Nat.mod_eq_of_lt h
  simp [dig, pw, this]
theorem dg1i {n : Int} (h0 : 0 ≤ n) (h : n < 256) : dg n 1 = [n] := by
  obtain ⟨N, rfl⟩ := Int.eq_ofNat_of_zero_le h0
  exact dg1 (by omega)
theorem dg2 {N : Nat} (h : N < 65536) : dg (N : Int) 2 = [(N : Int) / 256, (N : Int) % 256] := by
  have e : digs N 2 2 = [dig N 2 0, dig N 2 1] := by simp [digs, List.range_succ]
  unfold dg
  rw [Int.toNat_natCast, e]
  have h1 : N / 256 % 256 = N / 256 := Nat.mod_eq_of_lt (by omega)
  simp [dig, pw, h1]
theorem nameL_eq {x : NL} (h12 : x.1.size ≤ 12) (hP : RelP x.2.1 x.2.2) : nameL x = [(x.1.size : Int)] ++ sB x.1 ++ [x.2.1, (x.2.2.length : Int) / 256, (x.2.2.length : Int) % 256] ++ x.2.2.flatMap rowL := by
  have := hP.few
  unfold nameL textL relL
  rw [dg1 (by omega), dg1i hP.lo (by have := hP.hi; omega), dg2 (by omega)]
  simp
theorem valL_e {n : Int} {s : ByteArray} (h : s.toList.isEmpty = true) : valL (n, s) = [(s.size : Int)] ++ dg n 6 := by
  have h0 := empty_size h
  have h1 : sB s = [] := List.eq_nil_of_length_eq_zero (by rw [sB_len]; exact h0)
  unfold valL textL
  simp only [h, if_true]
  rw [dg1 (by omega), h1]; simp
theorem valL_w {n : Int} {s : ByteArray} (h : s.toList.isEmpty = false) (h12 : s.size ≤ 12) : valL (n, s) = [(s.size : Int)] ++ sB s := by
  unfold valL textL
  simp only [h, Bool.false_eq_true, if_false]
  rw [dg1 (by omega)]; simp

set_option maxHeartbeats 16000000 in
theorem bytesS_any (a : Option Addr) (b off cap : Nat) (T : List Nm) (w : World) (h : St.Rd w a b off T) (L : List Int) (t : Bool) (hA : BA (told T) L t) :
    Calls Try.prog 18 #[.agg #[.slice a T.length cap]] w (ResY w L t) := by
  obtain ⟨W1, hW1⟩ : ∃ W1, W1 = w.alloc (.cells #[.slice a T.length cap] 29) := ⟨_, rfl⟩
  have B1 : Below w.heap.size w W1 := by subst hW1; exact below_alloc1 _ _
  have k0 : W1.heap[w.heap.size]? = some (.cells #[.slice a T.length cap] 29 (0, 0)) := by subst hW1; exact at_new rfl
  have hS := St.okS_any a b off cap T W1 (h.below B1)
  cases hB : storeB (told T) with
  | false =>
    rw [hB] at hS
    obtain ⟨rfl, rfl⟩ : L = [] ∧ t = false := by unfold BA at hA; rw [if_neg (by simp [hB])] at hA; exact hA
    go_enter Try.func18, Try.ntmps18
    go_wp2_with (go_at_call 8; rw [← hW1]; clear hW1; refine hS.mono ?_; rintro e w1 ⟨rfl, hb⟩; replace B1 := Rw.next B1 hb)
    go_ret2
    exact ⟨_, rfl, World.ownsRow_nil _ _ _ _, B1⟩
  | true =>
    rw [hB] at hS
    have HA : Hid (if (storeL (told T)).length ≤ 60000 then L = storeL (told T) ∧ t = true else L = [] ∧ t = false) := by
      unfold BA at hA
      by_cases q : (storeL (told T)).length ≤ 60000
      · rw [Hid, if_pos q]; rw [if_pos ⟨hB, q⟩] at hA; exact hA
      · rw [Hid, if_neg q]; rw [if_neg (fun z => q z.2)] at hA; exact hA
    have hf : T.length ≤ 24 := by have := Mp.store_small hB; rw [St.told_len] at this; exact this
    have HT : Hid (∀ i, i < T.length → ((told T).take (i + 1)).flatMap nameL = ((told T).take i).flatMap nameL ++ nameL (T.getD i nm0).l) := fun i hi => by rw [take_told hi]; simp
    have HE : Hid (storeL (told T) = [(T.length : Int)] ++ ((told T).take T.length).flatMap nameL) := by
      have e : ((told T).take T.length) = told T := by rw [← St.told_len T, List.take_length]
      rw [Hid, e]; unfold storeL; rw [St.told_len, dg1 (by omega)]
    have HC : Hid (∀ i, (((told T).take i).flatMap nameL).length ≤ 821184) := fun i => Nat.le_trans (flat_take_len _ _) (storeL_len hB)
    have HO : Hid (∀ i, i < T.length → (T.getD i nm0).s.size ≤ 12 ∧ RelP (T.getD i nm0).ar (said (T.getD i nm0).Q)) := fun i hi => by
      obtain ⟨q1, q2⟩ := Mp.store_one hB (List.mem_map_of_mem (f := Nm.l) (St.mem_at hi))
      exact ⟨word_small q1, q2⟩
    have HR : Hid (St.Rd w a b off T) := h
    clear hA hB h
    obtain ⟨n, hn⟩ : ∃ n, n = T.length := ⟨_, rfl⟩
    rw [← hn] at HT HE HO hf k0 hW1 hS ⊢
    have HN : Hid (n = T.length) := hn
    clear hn
    go_enter Try.func18, Try.ntmps18
    go_wp2_with (go_at_call 8; rw [← hW1]; clear hW1; refine hS.mono ?_; rintro e w1 ⟨rfl, hb⟩; replace B1 := Rw.next B1 hb; replace k0 := (hb.block _ (blk_lt k0)).trans k0; clear hb hS; have p0 := one k0; have lk := blk_lt k0)
    clear p0
    have hsz := B1.size
    have K0 : KB w.heap.size w.heap.size w (w1.alloc (.cells #[.int .u8 (n : Int)] 5)) := ⟨Rw.next B1 (below_alloc1 _ _), by simp; omega, fun x hx _ _ => (Rw.next B1 (below_alloc1 w1 (.cells #[.int .u8 (n : Int)] 5))).block x hx⟩
    have ho0 := own_one w1 hsz (n : Int)
    have hs0 : w.heap.size < (w1.alloc (.cells #[.int .u8 (n : Int)] 5)).heap.size := by simp; omega
    generalize w1.alloc (.cells #[.int .u8 (n : Int)] 5) = V1 at K0 ho0 hs0 ⊢
    generalize Value.slice (some ⟨w1.heap.size, 0, none⟩) 1 1 = v0 at ho0 ⊢
    clear k0 B1 lk hsz
    go_loopw [4, 23] (fun v i wr => ∃ k : Nat, k ≤ n ∧ i = .int .i64 k ∧ KB w.heap.size w.heap.size w wr ∧ w.heap.size < wr.heap.size ∧ OwnI wr w.heap.size v ([(n : Int)] ++ ((told T).take k).flatMap nameL)) (fun _ i _ => n - (intOf i).toNat)
    case atStart => exact ⟨0, Nat.zero_le _, rfl, K0, hs0, by simpa using ho0⟩
    case round =>
      clear K0 ho0 hs0
      obtain ⟨k, hk, rfl, K1, hs1, ho⟩ := hrel
      have hLk : ([(n : Int)] ++ ((told T).take k).flatMap nameL).length ≤ 821185 := by rw [List.length_append]; have := HC.out k; simp only [List.length_cons, List.length_nil]; omega
      by_cases hlt : k < n
      · have hkz : (k : Int) < (n : Int) := by omega
        have hnn := HN.out
        obtain rfl := HR.out.head (by omega)
        obtain ⟨c0, c1, c2⟩ := St.At3.of (HR.out.cell k (by omega)) K1.low (HR.out.cell k (by omega)).lt
        have okx : (T.getD k nm0).Ok w := HR.out.ok k (by omega)
        obtain ⟨o1, o2⟩ := HO.out k hlt
        have HTk : Hid (((told T).take (k + 1)).flatMap nameL = ((told T).take k).flatMap nameL ++ nameL (T.getD k nm0).l) := HT.out k hlt
        have HNk := nameL_eq (x := (T.getD k nm0).l) o1 o2
        clear hnn
        generalize T.getD k nm0 = x at c0 c1 c2 okx o1 o2 HTk HNk
        obtain ⟨xs, xr, xa, xb, xo, xc, xQ⟩ := x
        simp only [Nm.l] at c0 c1 c2 o1 o2 HTk HNk
        have okx' : Rl.Rd w xa xb xo xQ := okx
        rw [Rl.said_len] at HNk
        have HNk' : Hid (nameL (xs, xr, said xQ) = [(xs.size : Int)] ++ sB xs ++ [xr, (xQ.length : Int) / 256, (xQ.length : Int) % 256] ++ (said xQ).flatMap rowL) := HNk
        have hQ3 : xQ.length ≤ 300 := by have := o2.few; rw [Rl.said_len] at this; exact this
        have ar0 := o2.lo
        have ar6 := o2.hi
        have HP : Hid (RelP xr (said xQ)) := o2
        have HOk : Hid (Rl.Rd w xa xb xo xQ) := okx'
        obtain ⟨L1, hL1⟩ : ∃ L1, L1 = [(n : Int)] ++ ((told T).take k).flatMap nameL := ⟨_, rfl⟩
        rw [← hL1] at ho hLk
        have HL1 : Hid (L1 = [(n : Int)] ++ ((told T).take k).flatMap nameL) := hL1
        clear hL1 okx okx' HNk o2
        obtain ⟨eb, heb⟩ : ∃ eb, eb = wr.heap.size := ⟨_, rfl⟩
        have Ka : KB w.heap.size w.heap.size w (wr.alloc (.cells #[.string xs, .int .i64 xr, .slice xa xQ.length xc] 51)) := K1.next (below_alloc1 _ _) (by omega)
        have ka : (wr.alloc (.cells #[.string xs, .int .i64 xr, .slice xa xQ.length xc] 51)).heap[eb]? = some (.cells #[.string xs, .int .i64 xr, .slice xa xQ.length xc] 51 (0, 0)) := at_new heb
        have t1 : True := trivial
        go_wp2_with (first
          | (at_builtin; clear t1; refine wpList_ownI rfl _ _ rfl w.heap.size _ L1 [(xs.size : Int)] rfl (own_below ho (below_alloc2 _ _ _)) (some ⟨wr.heap.size + 1, 0, none⟩) (wr.heap.size + 1) 0 1 rfl (rd_one (at_new (by simp)) (by omega)) (by simp only [List.length_cons, List.length_nil]; omega) (by simp; omega) ?_; intro v1 z1 ho1 hg; have hoA := own_below ho (below_alloc2 wr (.cells #[.string xs, .int .i64 xr, .slice xa xQ.length xc] 51) (.cells #[.int .u8 (xs.size : Int)] 5)); have Kb := (Ka.next (below_alloc1 _ (.cells #[.int .u8 (xs.size : Int)] 5)) (by simp; omega)).grown hoA hg (by simp; omega); have kA := ((below_alloc1 (wr.alloc (.cells #[.string xs, .int .i64 xr, .slice xa xQ.length xc] 51)) (.cells #[.int .u8 (xs.size : Int)] 5)).block _ (blk_lt ka)).trans ka; have kb := (hg.block _ (blk_lt kA) (own_ne hoA kA)).trans kA; have hs2 : w.heap.size < z1.heap.size := (by have := Kb.size; have := blk_lt kb; omega); have hne : eb ≠ w.heap.size := (by omega); rw [← heb]; clear hoA kA ka Ka hg heb ho K1 hs1; obtain ⟨x0, x1, x2⟩ := St.three kb; have t2 : True := trivial)
          | (clear t2; refine wpList_bytes rfl _ rfl xs rfl (by omega) ?_; intro cc z2 hb rb; clear x0 x1 x2; replace kb := (hb.block _ (blk_lt kb)).trans kb; replace Kb := Kb.next hb (by omega); replace ho1 := own_below ho1 hb; have hs3 : w.heap.size < z2.heap.size := (by have := hb.size; omega); clear hb hs2; obtain ⟨x0, x1, x2⟩ := St.three kb; have t3 : True := trivial)
          | (at_builtin; clear t3; refine wpList_ownI rfl _ _ rfl w.heap.size v1 (L1 ++ [(xs.size : Int)]) (sB xs) rfl ho1 (some ⟨z1.heap.size, 0, none⟩) z1.heap.size 0 cc rfl rb (by rw [sB_len]; simp only [List.length_append, List.length_cons, List.length_nil]; omega) (by omega) ?_; intro v2 z3 ho2 hg; clear x0 x1 x2; replace kb := (hg.block _ (blk_lt kb) (own_ne ho1 kb)).trans kb; replace Kb := Kb.grown ho1 hg (by omega); have hs4 : w.heap.size < z3.heap.size := (by have := hg.size; omega); clear hg ho1 hs3 rb; obtain ⟨x0, x1, x2⟩ := St.three kb; have t4 : True := trivial)
          | (at_builtin; clear t4; refine wpList_ownI rfl _ _ rfl w.heap.size v2 (L1 ++ [(xs.size : Int)] ++ sB xs) [xr, (xQ.length : Int) / 256, (xQ.length : Int) % 256] rfl (own_below ho2 (below_alloc1 _ _)) (some ⟨z3.heap.size, 0, none⟩) z3.heap.size 0 3 rfl (rd_three (at_new rfl) (by omega) (by omega) (by omega)) (by simp only [List.length_append, List.length_cons, List.length_nil, sB_len]; omega) (by simp; omega) ?_; intro v3 z4 ho3 hg; clear x0 x1 x2; have hbz := below_alloc1 z3 (.cells #[.int .u8 xr, .int .u8 ((xQ.length : Int) / 256), .int .u8 ((xQ.length : Int) % 256)] 5); have kz := (hbz.block _ (blk_lt kb)).trans kb; have hoz := own_below ho2 hbz; replace kb := (hg.block _ (blk_lt kz) (own_ne hoz kz)).trans kz; replace Kb := (Kb.next hbz (by omega)).grown hoz hg (by simp; omega); have hs5 : w.heap.size < z4.heap.size := (by have := hg.size; have := hbz.size; omega); clear hg ho2 hs4 hbz kz hoz; obtain ⟨x0, x1, x2⟩ := St.three kb)
          | go_in)
        clear x0 x1 x2
        obtain ⟨L4, hL4⟩ : ∃ L4, L4 = L1 ++ [(xs.size : Int)] ++ sB xs ++ [xr, (xQ.length : Int) / 256, (xQ.length : Int) % 256] := ⟨_, rfl⟩
        rw [← hL4] at ho3
        have hL4n : L4.length ≤ 821201 := by rw [hL4]; simp only [List.length_append, List.length_cons, List.length_nil, sB_len]; omega
        have HL4 : Hid (L4 = L1 ++ [(xs.size : Int)] ++ sB xs ++ [xr, (xQ.length : Int) / 256, (xQ.length : Int) % 256]) := hL4
        clear hL4
        have HCr : Hid (∀ i, (((said xQ).take i).flatMap rowL).length ≤ 34203) := fun i => by
          have := flat_take_len (f := rowL) (said xQ) i
          have := relL_len HP.out
          unfold relL at this
          rw [List.length_append] at this
          omega
        go_loopw [4, 62] (fun vv j wm => ∃ m : Nat, m ≤ xQ.length ∧ j = .int .i64 m ∧ KB w.heap.size w.heap.size w wm ∧ w.heap.size < wm.heap.size ∧ wm.heap[eb]? = some (.cells #[.string xs, .int .i64 xr, .slice xa xQ.length xc] 51 (0, 0)) ∧ OwnI wm w.heap.size vv (L4 ++ ((said xQ).take m).flatMap rowL)) (fun _ j _ => xQ.length - (intOf j).toNat)
        case atStart => exact ⟨0, Nat.zero_le _, rfl, Kb, hs5, kb, by simpa using ho3⟩
        case round =>
          clear Kb hs5 kb ho3
          obtain ⟨m, hm, rfl, Kb, hs5, kb, ho3⟩ := hrel
          obtain ⟨x0, x1, x2⟩ := St.three kb
          by_cases hml : m < xQ.length
          · have hmz : (m : Int) < (xQ.length : Int) := by omega
            obtain rfl := HOk.out.head (by omega)
            have r0 := (HOk.out.below Kb.low).cell m hml
            have okr : (xQ.getD m rm0).Ok w := HOk.out.ok m hml
            have hmem : (xQ.getD m rm0).l ∈ said xQ := List.mem_map_of_mem (Rl.getD_mem hml)
            have hv6 : (xQ.getD m rm0).l.length ≤ 6 := by have := HP.out.fit _ hmem; omega
            have HVk : Hid (∀ x ∈ (xQ.getD m rm0).l, Vl.valB x = true) := HP.out.ok _ hmem
            have HTm : Hid (((said xQ).take (m + 1)).flatMap rowL = ((said xQ).take m).flatMap rowL ++ rowL (xQ.getD m rm0).l) := by rw [Hid, Rl.take_next hml]; simp
            have hcm := HCr.out m
            clear hmem
            generalize xQ.getD m rm0 = y at r0 okr hv6 HVk HTm
            obtain ⟨ya, yb, yo, yc, yl⟩ := y
            simp only [Rm.val] at r0 hv6 HVk HTm
            have HYk : Hid (Vl.Rd w ya yb yo yl) := okr
            obtain ⟨L5, hL5⟩ : ∃ L5, L5 = L4 ++ ((said xQ).take m).flatMap rowL := ⟨_, rfl⟩
            rw [← hL5] at ho3
            have hL5n : L5.length ≤ 855404 := by rw [hL5, List.length_append]; omega
            have HL5 : Hid (L5 = L4 ++ ((said xQ).take m).flatMap rowL) := hL5
            clear hL5 okr hcm
            go_wp2
            clear x0 x1 x2 r0
            go_loopw [4, 73] (fun vv j wi => ∃ q : Nat, q ≤ yl.length ∧ j = .int .i64 q ∧ KB w.heap.size w.heap.size w wi ∧ w.heap.size < wi.heap.size ∧ wi.heap[eb]? = some (.cells #[.string xs, .int .i64 xr, .slice (some ⟨xb, xo, none⟩) xQ.length xc] 51 (0, 0)) ∧ OwnI wi w.heap.size vv (L5 ++ (yl.take q).flatMap valL)) (fun _ j _ => yl.length - (intOf j).toNat)
            case atStart => exact ⟨0, Nat.zero_le _, rfl, Kb, hs5, kb, by simpa using ho3⟩
            case round =>
              clear Kb hs5 kb ho3
              obtain ⟨q, hq, rfl, Kb, hs5, kb, ho3⟩ := hrel
              by_cases hql : q < yl.length
              · have hqz : (q : Int) < (yl.length : Int) := by omega
                obtain rfl := HYk.out.head (by omega)
                obtain ⟨d0, d1⟩ := (HYk.out.below Kb.low).cell q hql
                have hv1 : Vl.valB (yl.getD q Vl.z2) = true := HVk.out _ (by simp [List.getD, hql])
                have HTq : Hid ((yl.take (q + 1)).flatMap valL = (yl.take q).flatMap valL ++ valL (yl.getD q Vl.z2)) := by rw [Hid, take_val hql]; simp
                have hql2 : ((yl.take q).flatMap valL).length ≤ 114 := by
                  have := flat_take_len (f := valL) yl q
                  have := rowL_len (l := yl) HVk.out hv6
                  unfold rowL at this
                  omega
                generalize yl.getD q Vl.z2 = u at d0 d1 hv1 HTq
                obtain ⟨yn, ys⟩ := u
                simp only at d0 d1
                have h12 := val_small hv1
                simp only at h12
                obtain ⟨L6, hL6⟩ : ∃ L6, L6 = L5 ++ (yl.take q).flatMap valL := ⟨_, rfl⟩
                rw [← hL6] at ho3
                have hL6n : L6.length ≤ 855518 := by rw [hL6, List.length_append]; omega
                have HL6 : Hid (L6 = L5 ++ (yl.take q).flatMap valL) := hL6
                clear hL6 hql2
                have hbv := below_alloc1 wr (.cells #[.int .i64 yn, .string ys] 72)
                have kv : (wr.alloc (.cells #[.int .i64 yn, .string ys] 72)).heap[wr.heap.size]? = some (.cells #[.int .i64 yn, .string ys] 72 (0, 0)) := at_new rfl
                have Kv : KB w.heap.size w.heap.size w (wr.alloc (.cells #[.int .i64 yn, .string ys] 72)) := Kb.next hbv (by omega)
                have kbv := (hbv.block _ (blk_lt kb)).trans kb
                have hov := own_below ho3 hbv
                have nev : wr.heap.size ≠ w.heap.size := by omega
                have hsv : w.heap.size < (wr.alloc (.cells #[.int .i64 yn, .string ys] 72)).heap.size := by simp; omega
                obtain ⟨ev, hev⟩ : ∃ ev, ev = wr.heap.size := ⟨_, rfl⟩
                have t1 : True := trivial
                cases he : ys.toList.isEmpty with
                | true =>
                  have hn6 : numOkB yn 6 = true := by
                    unfold Vl.valB at hv1
                    simp only [he, if_true] at hv1
                    rw [numOkB]; unfold Vl.numB at hv1; have := of_decide_eq_true hv1; simp [pw]; omega
                  have HVe : Hid (valL (yn, ys) = [(ys.size : Int)] ++ dg yn 6) := valL_e he
                  clear hv1
                  go_wp2_with (first
                    | (at_builtin; clear t1; refine wpList_ownI rfl _ _ rfl w.heap.size _ L6 [(ys.size : Int)] rfl (own_below hov (below_alloc1 _ _)) (some ⟨wr.heap.size + 1, 0, none⟩) (wr.heap.size + 1) 0 1 rfl (rd_one (at_new (by simp)) (by omega)) (by simp only [List.length_cons, List.length_nil]; omega) (by simp; omega) ?_; intro v6 z1 ho4 hg; have hb2 := below_alloc1 (wr.alloc (.cells #[.int .i64 yn, .string ys] 72)) (.cells #[.int .u8 (ys.size : Int)] 5); have hoA := own_below hov hb2; replace Kv := (Kv.next hb2 (by omega)).grown hoA hg (by simp; omega); have kA := (hb2.block _ (blk_lt kv)).trans kv; replace kv := (hg.block _ (blk_lt kA) (own_ne hoA kA)).trans kA; have kB := (hb2.block _ (blk_lt kbv)).trans kbv; replace kbv := (hg.block _ (blk_lt kB) (own_ne hoA kB)).trans kB; have hs6 : w.heap.size < z1.heap.size := (by have := hg.size; have := hb2.size; omega); clear hb2 hoA kA kB hg hov hsv; obtain ⟨y0, y1⟩ := two kv; have t2 : True := trivial)
                    | (go_at_call 44; clear t2 y0 y1; refine (specPut_own0 [] rfl yn 6 _ hn6).mono ?_; rintro e z2 ⟨vn, rfl, hvn, hb⟩; obtain ⟨g1, c1, rfl, hg1, hw1⟩ := Un.hasI_form hvn (by simp [digs_len]) (byt_app byt_nil (digs_byt _ _ _)); have rb := hw1.rd; replace kbv := (hb.block _ (blk_lt kbv)).trans kbv; replace Kv := Kv.next hb (by omega); replace ho4 := own_below ho4 hb; have hs7 : w.heap.size < z2.heap.size := (by have := hb.size; omega); clear hb hvn hw1 hg1 hs6; have t3 : True := trivial)
                    | (at_builtin; clear t3; refine wpList_ownI rfl _ _ rfl w.heap.size v6 (L6 ++ [(ys.size : Int)]) ([] ++ digs yn.toNat (6 : Int).toNat (6 : Int).toNat) rfl ho4 (some ⟨g1, 0, none⟩) g1 0 c1 rfl rb (by simp only [List.length_append, List.length_cons, List.length_nil, digs_len]; show _ + (0 + 6) ≤ _; omega) (by omega) ?_; intro v7 z3 ho5 hg; replace kbv := (hg.block _ (blk_lt kbv) (own_ne ho4 kbv)).trans kbv; replace Kv := Kv.grown ho4 hg (by omega); have hs8 : w.heap.size < z3.heap.size := (by have := hg.size; omega); clear hg ho4 hs7 rb)
                    | go_in)
                  go_roundw
                  case rel =>
                    refine ⟨q + 1, by omega, by go_num, Kv, hs8, kbv, ?_⟩
                    rw [HTq.out, HVe.out, ← List.append_assoc, ← HL6.out]
                    simpa [dg] using ho5
                  case measure => simp [intOf]; omega
                | false =>
                  have HVe : Hid (valL (yn, ys) = [(ys.size : Int)] ++ sB ys) := valL_w he h12
                  clear hv1
                  go_wp2_with (first
                    | (at_builtin; clear t1; refine wpList_ownI rfl _ _ rfl w.heap.size _ L6 [(ys.size : Int)] rfl (own_below hov (below_alloc1 _ _)) (some ⟨wr.heap.size + 1, 0, none⟩) (wr.heap.size + 1) 0 1 rfl (rd_one (at_new (by simp)) (by omega)) (by simp only [List.length_cons, List.length_nil]; omega) (by simp; omega) ?_; intro v6 z1 ho4 hg; have hb2 := below_alloc1 (wr.alloc (.cells #[.int .i64 yn, .string ys] 72)) (.cells #[.int .u8 (ys.size : Int)] 5); have hoA := own_below hov hb2; replace Kv := (Kv.next hb2 (by omega)).grown hoA hg (by simp; omega); have kA := (hb2.block _ (blk_lt kv)).trans kv; replace kv := (hg.block _ (blk_lt kA) (own_ne hoA kA)).trans kA; have kB := (hb2.block _ (blk_lt kbv)).trans kbv; replace kbv := (hg.block _ (blk_lt kB) (own_ne hoA kB)).trans kB; have hs6 : w.heap.size < z1.heap.size := (by have := hg.size; have := hb2.size; omega); clear hb2 hoA kA kB hg hov hsv; obtain ⟨y0, y1⟩ := two kv; have t2 : True := trivial)
                    | (clear t2; refine wpList_bytes rfl _ rfl ys rfl (by omega) ?_; intro cc z2 hb rb; clear y0 y1; replace kbv := (hb.block _ (blk_lt kbv)).trans kbv; replace Kv := Kv.next hb (by omega); replace ho4 := own_below ho4 hb; have hs7 : w.heap.size < z2.heap.size := (by have := hb.size; omega); clear hb hs6; have t3 : True := trivial)
                    | (at_builtin; clear t3; refine wpList_ownI rfl _ _ rfl w.heap.size v6 (L6 ++ [(ys.size : Int)]) (sB ys) rfl ho4 (some ⟨z1.heap.size, 0, none⟩) z1.heap.size 0 cc rfl rb (by rw [sB_len]; simp only [List.length_append, List.length_cons, List.length_nil]; omega) (by omega) ?_; intro v7 z3 ho5 hg; replace kbv := (hg.block _ (blk_lt kbv) (own_ne ho4 kbv)).trans kbv; replace Kv := Kv.grown ho4 hg (by omega); have hs8 : w.heap.size < z3.heap.size := (by have := hg.size; omega); clear hg ho4 hs7 rb)
                    | go_in)
                  go_roundw
                  case rel =>
                    refine ⟨q + 1, by omega, by go_num, Kv, hs8, kbv, ?_⟩
                    rw [HTq.out, HVe.out, ← List.append_assoc, ← HL6.out]
                    simpa using ho5
                  case measure => simp [intOf]; omega
              · have he : q = yl.length := by omega
                subst he
                go_wp2
                go_roundw
                case rel =>
                  refine ⟨m + 1, by omega, by go_num, Kb, hs5, kb, ?_⟩
                  rw [HTm.out, ← List.append_assoc, ← HL5.out]
                  simpa [rowL] using ho3
                case measure => simp [intOf]; omega
          · have he : m = xQ.length := by omega
            subst he
            have e : (said xQ).take xQ.length = said xQ := by rw [← Rl.said_len xQ, List.take_length]
            rw [e] at ho3
            clear e x0 x1 x2
            go_wp2
            go_roundw
            case rel =>
              refine ⟨k + 1, by omega, by go_num, Kb, hs5, ?_⟩
              rw [HTk.out, HNk'.out, ← List.append_assoc, ← HL1.out]
              have := HL4.out
              rw [this] at ho3
              simpa using ho3
            case measure => simp [intOf]; omega
      · have he : k = n := by omega
        subst he
        obtain ⟨va, vc, rfl⟩ := own_form ho
        have hA := HA.out
        rw [HE.out] at hA
        generalize [(k : Int)] ++ ((told T).take k).flatMap nameL = L1 at ho hLk hA
        by_cases h6 : L1.length ≤ 60000
        · rw [if_pos h6] at hA
          obtain ⟨rfl, rfl⟩ := hA
          have h6z : ¬ (L.length : Int) > 60000 := by omega
          clear HA HE
          go_wp2
          go_ret2
          exact ⟨_, rfl, ho, K1.low⟩
        · rw [if_neg h6] at hA
          obtain ⟨rfl, rfl⟩ := hA
          have h6z : (L1.length : Int) > 60000 := by omega
          clear HA HE
          go_wp2
          go_ret2
          exact ⟨_, rfl, World.ownsRow_nil _ _ _ _, K1.low⟩

end Go.Proofs.Ytecnbenlmbppbaa.Sw
