/-
  What the law FnUdp needs: three kinds of bytes written with their room and read back; the head of a packet with a datagram in it.
-/
import Derived.Test.YthgbjbebjjeddaaHu
import Derived.Test.YthgbjbebjjeddaaIz
import Derived.Test.YthgbjbebjjeddaaPz
import Derived.Test.YthgbjbebjjeddaaUb
import Derived.Test.YthgbjbebjjeddaaRt
import Derived.Test.YthgbjbebjjeddaaMn
import Derived.BigQuiet
namespace Go.Proofs.Ythgbjbebjjeddaa.Fu
open Go Go.RowKit
open Num Rw Mk Un Put Pl App Pf Pb Ipl
set_option maxRecDepth 4000

/-- The bytes are written. -/
def Written (w : World) (L : List Int) (e : Ending) (w' : World) : Prop :=
  ∃ g cap, e = .returned (.tuple #[.slice (some ⟨g, 0, none⟩) L.length cap, .bool true]) ∧ Wt w' (some ⟨g, 0, none⟩) g L ∧ L.length ≤ cap ∧ w.heap.size ≤ g ∧ Below w.heap.size w w'

theorem writesU (s d : Int) (a : Option Addr) (b off cap : Nat) (l : List Int) (w : World) (h : Rd w a b off l) (hok : Ik.okU s d l.length = true) (L : List Int) (hL : L = udpL s d l) :
    Calls Try.prog 10 #[.agg #[.int .i64 s, .int .i64 d, .slice a l.length cap]] w (Written w L) := by
  subst hL
  have hl := (Ik.okU_parts hok).2.2
  refine (Ub.implYes s d a b off cap l w h hok).mono ?_
  rintro e w' ⟨v, rfl, hv, hb⟩
  obtain ⟨g, cap, rfl, hg, hwt, hc⟩ := Hp.room hv (by rw [udp_len]; omega) (udp_byt s d h.byt)
  exact ⟨g, cap, rfl, hwt, hc, hg, hb⟩
theorem writesI (t p s d : Int) (a : Option Addr) (b off cap : Nat) (l : List Int) (w : World) (h : Rd w a b off l) (hok : Ik.okI t p s d l.length = true) (L : List Int) (hL : L = ipL t p s d l) :
    Calls Try.prog 11 #[.agg #[.int .i64 t, .int .i64 p, .int .i64 s, .int .i64 d, .slice a l.length cap]] w (Written w L) := by
  subst hL
  have hl := (Ik.okI_parts hok).2.2.2.2
  refine (Ib.implYes t p s d a b off cap l w h hok).mono ?_
  rintro e w' ⟨v, rfl, hv, hb⟩
  obtain ⟨g, cap, rfl, hg, hwt, hc⟩ := Hp.room hv (by rw [ip_len]; omega) (ip_byt t p s d h.byt)
  exact ⟨g, cap, rfl, hwt, hc, hg, hb⟩
theorem writesP (d s t y : Int) (a : Option Addr) (b off cap : Nat) (l : List Int) (w : World) (h : Rd w a b off l) (hok : Pk.okB d s t y l.length = true) (L : List Int) (hL : L = pbL d s t y l) :
    Calls Try.prog 12 #[.agg #[.int .i64 d, .int .i64 s, .int .i64 t, .int .i64 y, .slice a l.length cap]] w (Written w L) := by
  subst hL
  have hl := (ok_parts hok).2.2.2.2.2.2.2.1
  have hlen := pb_len d s t y l
  have key : ∀ e w', ResY w d s t y l e w' → Written w (pbL d s t y l) e w' := by
    rintro e w' ⟨v, rfl, hv, hb⟩
    obtain ⟨g, cap, rfl, hg, hwt, hc⟩ := Hp.room hv (by rw [hlen]; split <;> omega) (pb_byt h.byt d s t y)
    exact ⟨g, cap, rfl, hwt, hc, hg, hb⟩
  by_cases ht : t = -1
  · exact (implPlain d s t y a b off cap l w h hok ht).mono key
  · exact (implTag d s t y a b off cap l w h hok ht).mono key

theorem udpH_eq (a b c : Int) : udpH a b c = [((a.toNat / 256 % 256 : Nat) : Int), ((a.toNat % 256 : Nat) : Int), ((b.toNat / 256 % 256 : Nat) : Int), ((b.toNat % 256 : Nat) : Int), ((c.toNat / 256 % 256 : Nat) : Int), ((c.toNat % 256 : Nat) : Int), 0, 0] := by
  unfold udpH
  rw [add2, add2, add2, add2]
  simp
theorem udp_facts {a b : Int} {q : List Int} (ha : numOkB a 2 = true) (hb : numOkB b 2 = true) (hq : q.length ≤ 1472) :
    Get.acc (udpL a b q) 0 2 = a ∧ Get.acc (udpL a b q) 2 2 = b ∧ Get.acc (udpL a b q) 4 2 = (udpL a b q).length ∧ Get.acc (udpL a b q) 6 2 = 0 := by
  rw [udp_len]
  have h1 := ok2 ha
  have h2 := ok2 hb
  unfold udpL
  rw [udpH_eq]
  simp only [Get.acc, List.cons_append, List.getD_cons_zero, List.getD_cons_succ, Nat.reduceAdd, Int.zero_mul, Int.zero_add]
  refine ⟨by omega, by omega, by omega, trivial⟩
theorem udp_drop (a b : Int) (q : List Int) : (udpL a b q).drop 8 = q := by
  unfold udpL
  rw [List.drop_append_of_le_length (by rw [udpH_len]; omega), List.drop_of_length_le (by rw [udpH_len]; omega)]
  rfl
theorem code_udp {a b : Int} {q : List Int} (hok : Ik.okU a b q.length = true) : Cd.codeU (udpL a b q) = 0 := by
  obtain ⟨ha, hb, hq⟩ := Ik.okU_parts hok
  obtain ⟨_, _, c2, c3⟩ := udp_facts ha hb hq
  have hlen := udp_len a b q
  unfold Cd.codeU
  rw [if_neg (by omega), if_neg (by simpa using c2), if_neg (by simpa using c3)]

theorem readsU (s d : Int) (q : List Int) (hok : Ik.okU s d q.length = true) (L : List Int) (hL : L = udpL s d q) (a : Option Addr) (b off cap : Nat) (w : World) (h : Rd w a b off L) (hc : L.length ≤ cap) :
    Calls Try.prog 15 #[.slice a L.length cap] w (Ir.ResU w s d 0 q) := by
  subst hL
  obtain ⟨ha, hb, hq⟩ := Ik.okU_parts hok
  obtain ⟨c0, c1, c2, c3⟩ := udp_facts ha hb hq
  have hlen := udp_len s d q
  obtain rfl := Cd.some_of h (by omega)
  have e := udp_drop s d q
  by_cases hcz : cap = 8
  · have := Ir.udpYesA b off cap _ w h hc (code_udp hok) (by omega) s d c0.symm c1.symm hcz
    rw [e] at this
    exact this
  · have := Ir.udpYesB b off cap _ w h hc (code_udp hok) (by omega) s d c0.symm c1.symm hcz
    rw [e] at this
    exact this

theorem code_ip {t p s d : Int} {q : List Int} (hok : Ik.okI t p s d q.length = true) : code (ipL t p s d q) = 0 := by
  obtain ⟨ht, hp, hs, hd, hl⟩ := Ik.okI_parts hok
  obtain ⟨c0, c1, c4, c2, c5, _⟩ := ip_facts ht hp hs hd hl
  have hlen := ip_len t p s d q
  unfold code
  rw [if_neg (by omega), if_neg (by simpa using c0), if_neg (by simp only [c1, c4]; simp), if_neg (by simpa using c2), if_neg (by simpa using c5)]
theorem acc_one (l : List Int) (p : Nat) : Get.acc l p 1 = l.getD p 0 := by simp [Get.acc]
theorem readsI (t p s d : Int) (q : List Int) (hok : Ik.okI t p s d q.length = true) (L : List Int) (hL : L = ipL t p s d q) (a : Option Addr) (b off cap : Nat) (w : World) (h : Rd w a b off L) (hc : L.length ≤ cap) :
    Calls Try.prog 14 #[.slice a L.length cap] w (Iz.ResR w t p s d 0 q) := by
  subst hL
  obtain ⟨ht, hp, hs, hd, hl⟩ := Ik.okI_parts hok
  obtain ⟨_, _, _, _, _, c8, c9, c12, c16⟩ := ip_facts ht hp hs hd hl
  have hlen := ip_len t p s d q
  obtain rfl := Cd.some_of h (by omega)
  have e := ip_drop t p s d q
  by_cases hcz : cap = 20
  · have := Iz.ipYesA b off cap _ w h hc (code_ip hok) (by omega) t p s d (by rw [acc_one]; exact c8.symm) (by rw [acc_one]; exact c9.symm) c12.symm c16.symm hcz
    rw [e] at this
    exact this
  · have := Iz.ipYesB b off cap _ w h hc (code_ip hok) (by omega) t p s d (by rw [acc_one]; exact c8.symm) (by rw [acc_one]; exact c9.symm) c12.symm c16.symm hcz
    rw [e] at this
    exact this

theorem readsP (d s t y : Int) (q : List Int) (hok : Pk.okB d s t y q.length = true) (hy : Byt q) (L : List Int) (hL : L = pbL d s t y q) (a : Option Addr) (b off cap : Nat) (w : World) (h : Rd w a b off L) (hc : L.length ≤ cap) :
    Calls Try.prog 13 #[.slice a L.length cap] w (Pz.ResR w d s t y 0 q) := by
  subst hL
  obtain ⟨hd6, hs6, ht1, ht2, hy1, hy2, hy3, hl5, hyy, htt⟩ := ok_parts hok
  have hlen := pb_len d s t y q
  have hh := Rt.hd_pb hok
  have hT : Pk.tagB t = true := by unfold Pk.tagB; rw [decide_eq_true]; omega
  have hY : Pk.typB y = true := by unfold Pk.typB; rw [decide_eq_true]; exact ⟨hy1, hy2, hy3⟩
  have hsum : Pr.sumAt (pbL d s t y q) = Pb.crcI (Pr.front (pbL d s t y q)) := by rw [Rt.sum_pb hy, Rt.front_pb]
  have hK := Rt.kind_pb hok
  have eb := Rt.body_pb hok
  have e0 := Rt.pb_dst (s := s) (t := t) (y := y) (q := q) hd6
  have e1 := Rt.pb_src (d := d) (t := t) (y := y) (q := q) hs6
  have eT := Rt.tag_pb hok
  have eY := Rt.type_pb hok
  obtain ⟨n, hn⟩ : ∃ n, (pbL d s t y q).length = n + 4 := ⟨(pbL d s t y q).length - 4, by rw [hlen]; split <;> omega⟩
  obtain rfl := Cd.some_of h (by omega)
  by_cases ht : t = -1
  · subst ht
    rw [if_pos rfl] at hh hK hlen
    have hY' : Pk.typB (Get.acc (pbL d s (-1) y q) 12 2) = true := by rw [Rt.pb_kind_plain hyy]; exact hY
    have := Pz.pread_yes _ b off cap _ w h _ _ _ _ _ fun w' h' => Pz.rp14_0 b off cap _ w' h' hh n hn (by omega) (by omega) hc hsum hY'
    rw [e0, e1, eb, Rt.pb_kind_plain hyy] at this
    exact this
  · rw [if_neg ht] at hh hK hlen
    have hT' : Pk.tagB (Get.acc (pbL d s t y q) 14 2) = true := by rw [Rt.pb_tag ht (htt ht)]; exact hT
    have hY' : Pk.typB (Get.acc (pbL d s t y q) 16 2) = true := by rw [Rt.pb_type_tag ht hyy]; exact hY
    have := Pz.pread_yes _ b off cap _ w h _ _ _ _ _ fun w' h' => Pz.rp18_0 b off cap _ w' h' hh n hn (by omega) (by omega) hc hsum hT' hY'
    rw [e0, e1, eb, Rt.pb_tag ht (htt ht), Rt.pb_type_tag ht hyy] at this
    exact this

theorem headI (d s t p T P S D : Int) (q : List Int) (hokI : Ik.okI T P S D q.length = true) (L : List Int) (hL : L = ipL T P S D q) (hok : Pk.okB d s t 2048 L.length = true) (hp1 : 1 ≤ p) (hp2 : p ≤ 255) (a : Option Addr) (b off cap : Nat) (w : World) (h : Rd w a b off L) (hc : L.length ≤ cap) :
    Calls Try.prog 16 #[.agg #[.int .i64 d, .int .i64 s, .int .i64 t, .int .i64 2048, .slice a L.length cap], .int .i64 p] w (Ht.ResHB w true [p, s, d, 2048, t + 1, S, D, P]) :=
  Hv.implOf_yes d s t 2048 p a b off cap L w h hok hp1 hp2 T P S D (fun W hW => Hv.dat_yes d s t a b off cap L W hW T P S D 0 q (fun W' hW' => (readsI T P S D q hokI L hL a b off cap W' hW' hc).mono (fun _ _ hr => Iz.res_of hr)))

/-- The bytes as a string. -/
def str (l : List Int) : ByteArray := ⟨(l.map (fun x => UInt8.ofNat x.toNat)).toArray⟩
theorem conv {w : World} {a : Option Addr} {b off : Nat} {l : List Int} (cap : Nat) (h : Rd w a b off l) : (convert 22 9 (.slice a l.length cap)).run Try.prog w = .ok (.string (str l)) w := Bk.conv_any cap h

theorem below_drewN {B : Nat} {w w' : World} (h : Below B w w') (n : Nat) : Below B w (w'.drewN n) := ⟨h.os, h.tape, h.output, h.size, h.block⟩

theorem okU_of {x1 x2 : Int} {n : Nat} (h1 : 0 ≤ x1 ∧ x1 < 65536) (h2 : 0 ≤ x2 ∧ x2 < 65536) (hn : n ≤ 30) : Ik.okU x1 x2 n = true := by
  unfold Ik.okU
  rw [mk2 h1.1 (by omega), mk2 h2.1 (by omega), decide_eq_true (by omega)]
  rfl
theorem okI_of {t s d : Int} {n : Nat} (h1 : 0 ≤ t ∧ t < 256) (h2 : 0 ≤ s ∧ s < 1000000) (h3 : 0 ≤ d ∧ d < 9) (hn : n ≤ 100) : Ik.okI t 17 s d n = true := by
  unfold Ik.okI
  rw [mk1 h1.1 (by omega), mk1 (by decide) (by decide), mk4 h2.1 (by omega), mk4 h3.1 (by omega), decide_eq_true (by omega)]
  rfl
theorem okB_of {d s t : Int} {n : Nat} (h : Dr.Bnd d s t) (hn : n ≤ 200) : Pk.okB d s t 2048 n = true := by
  obtain ⟨h1, h2, h3⟩ := h
  unfold Pk.okB Pk.numB Pk.tagB Pk.typB
  rw [decide_eq_true h1, decide_eq_true h2, decide_eq_true h3]
  simp only [Bool.true_and]
  rw [decide_eq_true (by decide), decide_eq_true (by omega)]
  rfl

end Go.Proofs.Ythgbjbebjjeddaa.Fu
