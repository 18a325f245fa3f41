/-
  The contract of the specification's Unhex: what it answers, on every string.
-/
import Derived.Test.YtjnhiolcciegaaaUnhex
namespace Go.Proofs.Ytjnhiolcciegaaa.Un
open Go.RowKit
open Num Rw Mk Word Hex

/-- A slice of the call's own, not nil, that holds the bytes l. -/
def HasI (w : World) (base : Nat) (v : Value) (l : List Int) : Prop := w.ownsRow base 5 1 v l.length (l.map (Value.int .u8)) ∧ v ≠ .slice none 0 0

theorem hasI_step {w wr w1 : World} {B : Nat} {v v' : Value} {l : List Int} {x : Int} {o : Obj} (h : HasI wr B v l) (hbel : Below w.heap.size w wr) (hB : w.heap.size ≤ B)
    (h' : w1.ownsRow B 5 1 v' (l.length + 1) (l.map (Value.int .u8) ++ [.int .u8 x])) (hg : (wr.alloc o).grownBy w1 v.ownBlock) (hn : v' = .slice none 0 0 ↔ v = .slice none 0 0 ∧ 1 = 0) :
    HasI w1 B v' (l ++ [x]) ∧ Below w.heap.size w w1 := by
  refine ⟨⟨?_, fun e => ?_⟩, ?_⟩
  · simpa using h'
  · have := hn.1 e; simp at this
  · have hs := hbel.size
    exact ((hbel.alloc hs o).grown hg (by simp; omega) (fun k hk => by have := (h.1.lt k hk).1; omega))

theorem hasI_form {w : World} {B : Nat} {v : Value} {l : List Int} (h : HasI w B v l) (hs : l.length ≤ 4194304) (hy : Byt l) :
    ∃ g cap, v = .slice (some ⟨g, 0, none⟩) l.length cap ∧ B ≤ g ∧ Wt w (some ⟨g, 0, none⟩) g l := by
  rcases h.1.2 with ⟨rfl, _⟩ | ⟨g, cap, cur, rfl, hb, hh, _, _, _, ht⟩
  · exact absurd rfl h.2
  · refine ⟨g, cap, rfl, hb, ⟨fun _ => rfl, fun i hi => ?_, fun i _ => by simp [World.frozen?, hh], hs, hy⟩⟩
    have := h.1.cells (g := g) rfl i (.int .u8 (l.getD i 0)) (by simp [hi, List.getD])
    by_cases ei : i = 0
    · subst ei; simpa [Addr.add] using this
    · simpa [Addr.add, ei] using this

theorem one_new (w : World) (x : Value) (t : TypeId) : ∀ j u, [x][j]? = some u → (w.alloc (.cells #[x] t)).cell? ((⟨w.heap.size, 0, none⟩ : Addr).add j) = some u := by
  intro j u hj
  match j, hj with
  | 0, hj => simp at hj; subst hj; simp [Addr.add]
  | j + 1, hj => simp at hj

theorem dg_val {j : Nat} {c : Int} (hj : j < 16) (h : ((dg j).toNat : Int) = c) : isH c = true ∧ val c = (j : Int) := by
  have e := dg_nat j hj
  rw [h] at e
  subst e
  unfold isH val
  by_cases h10 : j < 10
  · simp only [h10, if_true]
    refine ⟨by simp; omega, ?_⟩
    rw [if_pos (by omega)]; omega
  · simp only [h10, if_false]
    refine ⟨by simp; omega, ?_⟩
    rw [if_neg (by omega)]; omega

theorem dg_none {c : Int} (h : ∀ t, t < 16 → ((dg t).toNat : Int) ≠ c) : isH c = false := by
  cases hh : isH c with
  | false => rfl
  | true =>
    exfalso
    have hb := val_bd hh
    have ht : (val c).toNat < 16 := by omega
    apply h _ ht
    rw [dg_nat _ ht]
    simp [isH] at hh
    by_cases h57 : c ≤ 57
    · have e : val c = c - 48 := by unfold val; rw [if_pos h57]
      rw [if_pos (by omega)]; omega
    · have e : val c = c - 87 := by unfold val; rw [if_neg h57]
      rw [if_neg (by omega)]; omega

/-- The half byte that is held ahead of place k. -/
def hf (s : ByteArray) (k : Nat) : Int := if k % 2 = 1 then val (ch s (k - 1)) else 0
theorem hf_bd {s : ByteArray} {k : Nat} (h : ∀ j, j < k → isH (ch s j) = true) : 0 ≤ hf s k ∧ hf s k ≤ 15 := by
  unfold hf
  split
  · exact val_bd (h (k - 1) (by omega))
  · omega

theorem bytes_odd {s : ByteArray} {k j : Nat} (hp : k % 2 = 1) (hv : val (ch s k) = (j : Int)) : bytes s ((k + 1) / 2) = bytes s (k / 2) ++ [hf s k * 16 + (j : Int)] := by
  have e1 : (k + 1) / 2 = k / 2 + 1 := by omega
  have e2 : 2 * (k / 2) = k - 1 := by omega
  have e3 : k - 1 + 1 = k := by omega
  rw [e1, bytes_succ, un, e2, e3, hv, hf, if_pos hp]

set_option maxHeartbeats 4000000 in
theorem specUnhex_any (s : ByteArray) (w : World) (hs : s.size ≤ maxLen) :
    Calls Try.prog 30 #[.string s] w (Post w s) := by
  obtain ⟨i0, hi, hz0, hz1, hz2⟩ := info_parts info5
  unfold maxLen at hs
  by_cases hodd : s.size % 2 = 1
  · have HN : Hid (okB s = false) := ok_size (by omega)
    have ho : ((s.size : Int) % 2 != 0) = true := by simp; omega
    go_enter Try.func30, Try.ntmps30
    go_wp2
    go_ret2
    exact post_no HN.out rfl (Below.refl _ _)
  · have ho : ((s.size : Int) % 2 != 0) = false := by simp; omega
    by_cases hbig : 120000 < s.size
    · have hz : (120000 : Int) < (s.size : Int) := by omega
      have HN : Hid (okB s = false) := ok_size (by omega)
      go_enter Try.func30, Try.ntmps30
      go_wp2
      go_ret2
      exact post_no HN.out rfl (Below.refl _ _)
    · have hz : ¬ (120000 : Int) < (s.size : Int) := by omega
      go_enter Try.func30, Try.ntmps30
      go_wp2
      go_loopw [4, 5, 6, 7] (fun v q i _ wr => ∃ k : Nat, k ≤ s.size ∧ i = .int .i64 k ∧ q = .int .i64 (hf s k) ∧ HasI wr w.heap.size v (bytes s (k / 2)) ∧ Below w.heap.size w wr ∧ ∀ j, j < k → isH (ch s j) = true) (fun _ _ i _ _ => s.size - (intOf i).toNat)
      case atStart => exact ⟨0, Nat.zero_le _, rfl, rfl, ⟨World.ownsRow_made w #[] 0 (Nat.le_refl _) (Nat.zero_le _) rfl, by simp⟩, (Below.refl _ _).alloc (Nat.le_refl _) _, fun j hj => by omega⟩
      case round =>
        obtain ⟨k, hk, rfl, rfl, hown, hbel, hall⟩ := hrel
        have hhf := hf_bd hall
        have HA : Hid (∀ j, j < k → isH (ch s j) = true) := hall
        clear hall
        by_cases hlt : k < s.size
        · have hkz : (k : Int) < (s.size : Int) := by omega
          have c1 := ch_at s k hlt
          have b1 := ch_bd s k
          generalize hx : ch s k = x at *
          have HX : Hid (ch s k = x) := hx
          clear hx
          go_wp2
          go_loopw [7] (fun d wx => ∃ j : Nat, j ≤ 16 ∧ d = .int .i64 j ∧ HasI wx w.heap.size u4 (bytes s (k / 2)) ∧ Below w.heap.size w wx ∧ ∀ t, t < j → ((dg t).toNat : Int) ≠ x) (fun d _ => 16 - (intOf d).toNat)
          case atStart => exact ⟨0, Nat.zero_le _, rfl, hown, hbel, fun t ht => by omega⟩
          case round =>
            clear hown hbel
            obtain ⟨j, hj, rfl, hown, hbel, hno⟩ := hrel
            have HNO : Hid (∀ t, t < j → ((dg t).toNat : Int) ≠ x) := hno
            clear hno
            by_cases hj16 : j < 16
            · have hjz : (j : Int) < 16 := by omega
              by_cases hd : ((dg j).toNat : Int) = x
              · have hdv := dg_val hj16 hd
                have hdb : (((dg j).toNat : Int) != x) = false := by simpa using hd
                have hj0 : ((j : Int) == 16) = false := by simp; omega
                have HV : Hid (isH x = true ∧ val x = (j : Int)) := hdv
                have HD : Hid (((dg j).toNat : Int) = x) := hd
                clear hd hdv
                by_cases hpar : k % 2 = 1
                · have hpz : ((k : Int) % 2 == 1) = true := by simp; omega
                  have HU : Hid (bytes s ((k + 1) / 2) = bytes s (k / 2) ++ [hf s k * 16 + (j : Int)]) := bytes_odd hpar (by rw [HX.out]; exact HV.out.2)
                  have HF : Hid (hf s (k + 1) = 0) := by unfold Hid hf; rw [if_neg (by omega)]
                  have HL := bytes_len s (k / 2)
                  have hsz := hbel.size
                  clear hpar
                  go_wp2_with fail
                  go_quiet ((go_at_call 42; exact Calls.quiet_of_same (Hex.digit_any _ _ hj16)))
                  have hoq : HasI (wr.drewN nq) w.heap.size u4 (bytes s (k / 2)) := hown
                  have hbq := below_drewN hbel nq
                  clear hown hbel hsz
                  generalize wr.drewN nq = wq at *
                  have hsz := hbq.size
                  go_wp2_with (at_builtin; refine wpList_append_own _ rfl _ _ 22 rfl w.heap.size 5 i0 (.int .u8 0) 1 1 Try.underlying22 hi hz0 hz1 hz2 rfl (by decide) u4 (bytes s (k / 2)).length ((bytes s (k / 2)).map (Value.int .u8)) rfl (hoq.1.alloc _) ⟨wq.heap.size, 0, none⟩ 1 1 [.int .u8 (hf s k * 16 + (j : Int))] rfl rfl (one_new wq _ _) (by intro u hu; simp at hu; subst hu; rfl) (by rw [HL]; unfold maxLen; omega) (by rw [HL]; omega) (by simp; omega) ?_; intro v' w1 hown' hgrow hnil)
                  have R := hasI_step hoq hbq (Nat.le_refl _) hown' hgrow hnil
                  clear hown' hgrow hnil hoq hbq
                  go_wp2
                  go_roundw
                  case rel => exact ⟨k + 1, by omega, by go_num, by rw [HF.out], by rw [HU.out]; exact R.1, R.2, fun t ht => by
                    by_cases e : t = k
                    · subst e; rw [HX.out]; exact HV.out.1
                    · exact HA.out t (by omega)⟩
                  case measure => simp [intOf]; omega
                · have hpz : ((k : Int) % 2 == 1) = false := by simp; omega
                  have HU : Hid ((k + 1) / 2 = k / 2) := by unfold Hid; omega
                  have HF : Hid (hf s (k + 1) = hf s k * 16 + (j : Int)) := by
                    unfold Hid hf; rw [if_pos (by omega), if_neg (by omega)]
                    simp only [Nat.add_sub_cancel]
                    rw [HX.out, HV.out.2]; omega
                  clear hpar
                  go_wp2_with fail
                  go_quiet ((go_at_call 42; exact Calls.quiet_of_same (Hex.digit_any _ _ hj16)))
                  go_wp2
                  go_roundw
                  case rel => exact ⟨k + 1, by omega, by go_num, by rw [HF.out], by rw [HU.out]; exact hown, below_drewN hbel _, fun t ht => by
                    by_cases e : t = k
                    · subst e; rw [HX.out]; exact HV.out.1
                    · exact HA.out t (by omega)⟩
                  case measure => simp [intOf]; omega
              · have hdb : (((dg j).toNat : Int) != x) = true := by simpa using hd
                go_wp2_with fail
                go_quiet ((go_at_call 42; exact Calls.quiet_of_same (Hex.digit_any _ _ hj16)))
                go_wp2
                go_roundw
                case rel => exact ⟨j + 1, by omega, by go_num, hown, below_drewN hbel _, fun t ht => by
                  by_cases e : t = j
                  · subst e; exact hd
                  · exact HNO.out t (by omega)⟩
                case measure => simp [intOf]; omega
            · have he : j = 16 := by omega
              subst he
              have hjd : decide (((16 : Nat) : Int) < 16) = false := by decide
              have HB : Hid (okB s = false) := ok_bad hlt (by rw [HX.out]; exact dg_none HNO.out)
              go_wp2_with fail
              go_quiet (fail)
              go_wp2
              go_ret2
              exact post_no HB.out rfl (below_drewN hbel _)
        · have he : k = s.size := by omega
          have HE : Hid (k = s.size) := he
          have hkz : ¬ (k : Int) < (s.size : Int) := by omega
          have hlen := bytes_len s (k / 2)
          obtain ⟨g, cap', hv, hg, hwt⟩ := hasI_form hown (by omega) (bytes_byt _ _ (fun j hj => HA.out j (by omega)))
          subst hv
          clear he hlt hown hlen
          go_wp2
          go_ret2
          have hE := HE.out
          refine post_yes (g := g) (cap := cap') (ok_good (by omega) (by omega) (fun j hj => HA.out j (by omega))) ?_ (by rw [← hE]; exact hwt) hg hbel
          have e3 : s.size / 2 = (bytes s (k / 2)).length := by rw [bytes_len, ← hE]
          rw [e3]
          rfl

end Go.Proofs.Ytjnhiolcciegaaa.Un
