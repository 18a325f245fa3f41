/-
  The specification's Lex: what it answers on every text.
-/
import Derived.Test.YtpjgedhkanmbpaaDoorLo
namespace Go.Proofs.YtpjgedhkanmbpaaDoor.Lo
open Go Go.RowKit
set_option maxRecDepth 8000
set_option linter.unusedVariables false
set_option linter.unusedSimpArgs false
open Lv (ch ltr cap lead varB len_eq ch_at ret_bool ret_int cl)
open Ly Pl Lg Lh Li Lf

theorem rem_run {s : ByteArray} {k q : Nat} (h : k ≤ q) (hq : q ≤ s.size) (ha : ∀ j, k ≤ j → j < q → ch s j ≠ 10) : rem s k = (q - k) + rem s q := by
  obtain ⟨d, rfl⟩ : ∃ d, q = k + d := ⟨q - k, by omega⟩
  clear h
  induction d with
  | zero => simp
  | succ d ih =>
    have h1 := ih (by omega) (fun j h1 h2 => ha j h1 (by omega))
    have h2 := rem_step (s := s) (k := k + d) (by omega) (ha (k + d) (by omega) (by omega))
    rw [show k + d + 1 = k + (d + 1) by omega] at h2
    omega
theorem rem_to {s : ByteArray} {k q : Nat} (h : k ≤ q) (hk : k < s.size) (h35 : ch s k = 35) (hq : q ≤ s.size) (ha : ∀ j, k ≤ j → j < q → ch s j ≠ 10) (he : q = s.size ∨ ch s q = 10) (T : List Tk) : LX s k T = LX s q T := by
  have hr := rem_run h hq ha
  have h0 : rem s q = 0 := by
    rcases he with he | he
    · exact rem_end (by omega)
    · by_cases hl : q < s.size
      · exact rem_ten hl he
      · exact rem_end (by omega)
  have h1 := rem_step hk (by rw [h35]; decide)
  rw [LX_rem hk h35, show k + 1 + rem s (k + 1) = q by omega]
theorem ext_ch (s : ByteArray) (i j : Nat) (h : i < j) (hj : j ≤ s.size) : ch (s.extract i j) 0 = ch s i := by
  unfold ch
  rw [ext_list]
  have h1 : 0 < j - i := by omega
  have h2 : i < s.data.toList.length := by rw [len_eq]; omega
  simp [List.getD, List.getElem?_take, h1, List.getElem?_drop]
theorem fst_let {s : ByteArray} {k q : Nat} (hk : k < q) (hq : q ≤ s.size) (ha : ∀ j, k ≤ j → j < q → ltr (ch s j) = true) (he : q = s.size ∨ ltr (ch s q) = false) : fst s k = letT (s.extract k q) := by
  have hl := ld_at (i := k) (k := q) (by omega) hq ha he
  unfold fst
  rw [if_pos (by omega), hl, show k + (q - k) = q by omega]
theorem fst_sg {s : ByteArray} {k : Nat} (hk : k < s.size) (hl : ltr (ch s k) = false) : fst s k = if (sg s k).size = 0 then ⟨0, 0, ⟨#[]⟩, 0, 2⟩ else ⟨4, 0, sg s k, (sg s k).size, 0⟩ := by
  unfold fst
  rw [if_neg (by rw [ld_zero hk hl]; decide)]

/-- What holds of the loop. -/
def InvS (w : World) (s : ByteArray) (v a : Value) (wr : World) : Prop :=
  ∃ (T : List Tk) (k : Nat), a = .int .i64 (k : Int) ∧ k ≤ s.size ∧ wr.ownsRow w.heap.size 31 4 v T.length (flat T) ∧ Below w.heap.size w wr ∧ LX s 0 [] = LX s k T ∧ T.length ≤ k

set_option maxHeartbeats 8000000 in
theorem lexS_any (s : ByteArray) (w : World) (hm : s.size ≤ maxLen) :
    Calls Tryd.prog 4 #[.string s] w (ResL w (LEX s)) := by
  unfold maxLen at hm
  by_cases hbig : 6000 < s.size
  · have hz : (6000 : Int) < (s.size : Int) := by omega
    have HA : Hid (LEX s = ([], 1, 0)) := (by unfold LEX; rw [if_pos hbig] : LEX s = ([], 1, 0))
    rw [HA.out]
    go_enter Tryd.func4, Tryd.ntmps4
    go_wp2
    refine bodyPost_ret (v := .tuple #[.slice none 0 0, .int .i64 1, .int .i64 0]) (by simp [results, Tryd.results4, go_sem]) rfl ?_
    exact ⟨Below.refl _ _, _, World.ownsRow_nil _ _ _ _, rfl⟩
  have hz : ¬ (6000 : Int) < (s.size : Int) := by omega
  have hs : s.size ≤ 6000 := by omega
  have HA : Hid (LEX s = LX s 0 []) := (by unfold LEX; rw [if_neg hbig] : LEX s = LX s 0 [])
  rw [HA.out]
  clear HA hbig
  go_enter Tryd.func4, Tryd.ntmps4
  go_wp2
  go_loopw [5, 6] (fun v a wr => InvS w s v a wr) (fun _ a _ => s.size - (intOf a).toNat)
  case atStart => exact ⟨[], 0, rfl, Nat.zero_le _, World.ownsRow_lit w #[] 0 (Nat.le_refl _) (by decide) (by simp), below_alloc1 _ _, rfl, Nat.zero_le _⟩
  case round =>
    obtain ⟨T, k, rfl, hk, hown, hbel, hlx, hTk⟩ := hrel
    have HLX : Hid (LX s 0 [] = LX s k T) := hlx
    clear hlx
    by_cases hlt : k < s.size
    · have hkz : (k : Int) < (s.size : Int) := by omega
      have HC : Hid (((s[k]'hlt).toNat : Int) = ch s k) := ch_at s k hlt
      by_cases hbl : ((s[k]'hlt).toNat : Int) = 9 ∨ ((s[k]'hlt).toNat : Int) = 10 ∨ ((s[k]'hlt).toNat : Int) = 13 ∨ ((s[k]'hlt).toNat : Int) = 32
      · have HN : Hid (LX s 0 [] = LX s (k + 1) T) := HLX.out.trans (LX_blank hlt (by rw [← HC.out]; unfold blk; exact decide_eq_true hbl) T)
        clear HLX HC
        rcases hbl with hx | hx | hx | hx
        · have e9 : (((s[k]'hlt).toNat : Int) == 9) = true := by rw [hx]; rfl
          clear hx
          go_wp2
          go_roundw
          case rel => exact ⟨T, k + 1, by go_num, by omega, hown, hbel, HN.out, by omega⟩
          case measure => simp [intOf]; omega
        · have e9 : (((s[k]'hlt).toNat : Int) == 9) = false := by rw [hx]; rfl
          have e10 : (((s[k]'hlt).toNat : Int) == 10) = true := by rw [hx]; rfl
          clear hx
          go_wp2
          go_roundw
          case rel => exact ⟨T, k + 1, by go_num, by omega, hown, hbel, HN.out, by omega⟩
          case measure => simp [intOf]; omega
        · have e9 : (((s[k]'hlt).toNat : Int) == 9) = false := by rw [hx]; rfl
          have e10 : (((s[k]'hlt).toNat : Int) == 10) = false := by rw [hx]; rfl
          have e13 : (((s[k]'hlt).toNat : Int) == 13) = true := by rw [hx]; rfl
          clear hx
          go_wp2
          go_roundw
          case rel => exact ⟨T, k + 1, by go_num, by omega, hown, hbel, HN.out, by omega⟩
          case measure => simp [intOf]; omega
        · have e9 : (((s[k]'hlt).toNat : Int) == 9) = false := by rw [hx]; rfl
          have e10 : (((s[k]'hlt).toNat : Int) == 10) = false := by rw [hx]; rfl
          have e13 : (((s[k]'hlt).toNat : Int) == 13) = false := by rw [hx]; rfl
          have e32 : (((s[k]'hlt).toNat : Int) == 32) = true := by rw [hx]; rfl
          clear hx
          go_wp2
          go_roundw
          case rel => exact ⟨T, k + 1, by go_num, by omega, hown, hbel, HN.out, by omega⟩
          case measure => simp [intOf]; omega
      have HNB : Hid (¬ (((s[k]'hlt).toNat : Int) = 9 ∨ ((s[k]'hlt).toNat : Int) = 10 ∨ ((s[k]'hlt).toNat : Int) = 13 ∨ ((s[k]'hlt).toNat : Int) = 32)) := hbl
      have HB1 : Hid (blk (ch s k) = false) := (by rw [← HC.out]; unfold blk; exact decide_eq_false hbl : blk (ch s k) = false)
      clear hbl
      have n9 : (((s[k]'hlt).toNat : Int) == 9) = false := (by have := HNB.out; simp; omega)
      have n10 : (((s[k]'hlt).toNat : Int) == 10) = false := (by have := HNB.out; simp; omega)
      have n13 : (((s[k]'hlt).toNat : Int) == 13) = false := (by have := HNB.out; simp; omega)
      have n32 : (((s[k]'hlt).toNat : Int) == 32) = false := (by have := HNB.out; simp; omega)
      by_cases h35 : ((s[k]'hlt).toNat : Int) = 35
      · have e35 : (((s[k]'hlt).toNat : Int) == 35) = true := by rw [h35]; rfl
        have H35 : Hid (ch s k = 35) := (by rw [← HC.out]; exact h35 : ch s k = 35)
        clear h35 HC HNB HB1
        have HOW : Hid (wr.ownsRow w.heap.size 31 4 _ T.length (flat T) ∧ Below w.heap.size w wr) := ⟨hown, hbel⟩
        clear hown hbel
        go_wp2
        go_loop [6] (fun a => ∃ q : Nat, a = .int .i64 (q : Int) ∧ k ≤ q ∧ q ≤ s.size ∧ ∀ j, k ≤ j → j < q → ch s j ≠ 10) (fun a => s.size - (intOf a).toNat)
        case atStart => exact ⟨k, rfl, Nat.le_refl _, by omega, fun j h1 h2 => by omega⟩
        case round =>
          obtain ⟨q, rfl, hkq, hqs, hall⟩ := hrel
          have HAL : Hid (∀ j, k ≤ j → j < q → ch s j ≠ 10) := hall
          clear hall
          by_cases hql : q < s.size
          · have hqz : (q : Int) < (s.size : Int) := by omega
            have HQ : Hid (((s[q]'hql).toNat : Int) = ch s q) := ch_at s q hql
            by_cases h10 : ((s[q]'hql).toNat : Int) = 10
            · have e10 : (((s[q]'hql).toNat : Int) == 10) = true := by rw [h10]; rfl
              have HN : Hid (LX s 0 [] = LX s q T) := HLX.out.trans (rem_to hkq hlt H35.out hqs HAL.out (.inr (by rw [← HQ.out]; exact h10)) T)
              have hne : k ≠ q := fun e => by subst e; have := H35.out; rw [← HQ.out, h10] at this; exact absurd this (by decide)
              clear h10
              go_wp2
              go_roundw
              case rel => exact ⟨T, q, rfl, hqs, HOW.out.1, HOW.out.2, HN.out, by omega⟩
              case measure => simp [intOf]; omega
            · have e10 : (((s[q]'hql).toNat : Int) == 10) = false := by simpa using h10
              have HQ2 : Hid (ch s q ≠ 10) := (by rw [← HQ.out]; exact h10 : ch s q ≠ 10)
              clear h10
              go_wp2
              go_round
              case rel => exact ⟨q + 1, by go_num, by omega, by omega, fun j h1 h2 => by
                by_cases e : j = q
                · subst e; exact HQ2.out
                · exact HAL.out j h1 (by omega)⟩
              case measure => simp [intOf]; omega
          · have hqz : ¬ (q : Int) < (s.size : Int) := by omega
            have HN : Hid (LX s 0 [] = LX s q T) := HLX.out.trans (rem_to hkq hlt H35.out hqs HAL.out (.inl (by omega)) T)
            go_wp2
            go_roundw
            case rel => exact ⟨T, q, rfl, hqs, HOW.out.1, HOW.out.2, HN.out, by omega⟩
            case measure => simp [intOf]; omega
      have e35 : (((s[k]'hlt).toNat : Int) == 35) = false := by simpa using h35
      have H35 : Hid (ch s k ≠ 35) := (by rw [← HC.out]; exact h35 : ch s k ≠ 35)
      clear h35 HNB
      have hfit := fst_fit hlt
      have HPOS : Hid ((fst s k).code = 0 → 1 ≤ (fst s k).len) := fst_pos hlt
      have HBAD : Hid ((fst s k).code ≠ 0 → LX s 0 [] = ([], (fst s k).code, (k : Int))) := fun hc => HLX.out.trans (LX_bad hlt HB1.out H35.out hc T)
      have HTOK : Hid ((fst s k).code = 0 → LX s 0 [] = LX s (k + (fst s k).len) (T ++ [⟨(fst s k).k, (fst s k).n, (fst s k).s, k⟩])) := fun hc => HLX.out.trans (LX_tok hlt HB1.out H35.out hc (HPOS.out hc) T)
      clear HLX HB1 H35
      by_cases hcl : cl ((s[k]'hlt).toNat : Int) = 0
      · have HF := fst_sg hlt (by rw [← HC.out]; exact (Lv.cl_zero _).1 hcl)
        have hsg := fun W => sign_any s k hlt hs W
        obtain ⟨G, hG⟩ : ∃ G, sg s k = G := ⟨_, rfl⟩
        rw [hG] at HF hsg
        clear hG HC
        by_cases hg0 : G.size = 0
        · rw [if_pos hg0] at HF
          rw [HF] at HBAD
          have HB : Hid (LX s 0 [] = ([], 2, (k : Int))) := HBAD.out (by decide)
          have ge : G.toList.isEmpty = true := by rw [ByteArray.toList_eq, List.isEmpty_iff]; exact List.eq_nil_of_length_eq_zero (by rw [len_eq]; exact hg0)
          clear HF HBAD HTOK HPOS hg0 hfit
          go_wp2_with (first | (go_at_call 9; refine (Lv.class_any _ _).mono ?_; rw [hcl]; rintro e w' ⟨rfl, hw'⟩; replace hw' := hw'.symm; subst hw') | (go_at_call 10; refine (hsg _).mono ?_; rintro e w2 ⟨rfl, hb2⟩))
          refine bodyPost_ret (v := .tuple #[.slice none 0 0, .int .i64 2, .int .i64 (k : Int)]) (by simp [results, Tryd.results4, go_sem]) rfl ?_
          rw [HB.out]
          exact ⟨Rw.next hbel hb2, _, World.ownsRow_nil _ _ _ _, rfl⟩
        · rw [if_neg hg0] at HF
          rw [HF] at HTOK hfit
          have HT1 : Hid (LX s 0 [] = LX s (k + G.size) (T ++ [⟨4, 0, G, k⟩])) := HTOK.out rfl
          have hfit2 : k + G.size ≤ s.size := hfit
          have ge : G.toList.isEmpty = false := by
            rw [ByteArray.toList_eq]
            cases hl : G.data.toList with
            | nil => exact absurd (by rw [← len_eq, hl]; rfl) hg0
            | cons a r => rfl
          have hgz : (G.size : Int) + k ≤ 6000 := by omega
          clear HF HBAD HTOK HPOS hfit
          have HOW : Hid (wr.ownsRow w.heap.size 31 4 _ T.length (flat T)) := hown
          clear hown
          go_wp2_with (first | (go_at_call 9; refine (Lv.class_any _ _).mono ?_; rw [hcl]; rintro e w' ⟨rfl, hw'⟩; replace hw' := hw'.symm; subst hw') | (go_at_call 10; refine (hsg _).mono ?_; rintro e w2 ⟨rfl, hb2⟩; have ho2 := own_below HOW.out hb2; have hbel2 := Rw.next hbel hb2) | (at_builtin; refine wpList_appT rfl _ _ rfl w.heap.size _ 1 _ T ⟨4, 0, G, k⟩ rfl rfl ((ho2).alloc _) (by have := (hbel2).size; simp; omega) (at_new (by simp)) (by omega) ?_; intro v3 w3 hown3 hgr3; have hbel3 := own_grown ((ho2).alloc _) (Rw.next (hbel2) (below_alloc1 _ _)) hgr3))
          go_roundw
          case rel => exact ⟨T ++ [⟨4, 0, G, k⟩], k + G.size, by go_num, hfit2, hown3, hbel3, HT1.out, by simp; omega⟩
          case measure => simp [intOf]; omega
      · have HL0 : Hid (ltr (ch s k) = true) := (by
          rw [← HC.out]
          cases e : ltr ((s[k]'hlt).toNat : Int)
          · exact absurd ((Lv.cl_zero _).2 e) hcl
          · rfl : ltr (ch s k) = true)
        have HDG : Hid (cl ((s[k]'hlt).toNat : Int) = 3 ↔ (48 ≤ ch s k ∧ ch s k ≤ 57)) := (by rw [← HC.out]; exact Lv.cl_three _ : cl ((s[k]'hlt).toNat : Int) = 3 ↔ (48 ≤ ch s k ∧ ch s k ≤ 57))
        obtain ⟨c, hc⟩ : ∃ c, cl ((s[k]'hlt).toNat : Int) = c := ⟨_, rfl⟩
        rw [hc] at hcl HDG
        have hc0 : (c == 0) = false := by simpa using hcl
        clear HC hcl
        have HOW : Hid (wr.ownsRow w.heap.size 31 4 _ T.length (flat T)) := hown
        clear hown
        go_wp2_with (first | (go_at_call 9; refine (Lv.class_any _ _).mono ?_; rw [hc]; rintro e w' ⟨rfl, hw'⟩; replace hw' := hw'.symm; subst hw'))
        go_loop [9] (fun a => ∃ q : Nat, a = .int .i64 (q : Int) ∧ k ≤ q ∧ q ≤ s.size ∧ ∀ j, k ≤ j → j < q → ltr (ch s j) = true) (fun a => s.size - (intOf a).toNat)
        case atStart => exact ⟨k, rfl, Nat.le_refl _, by omega, fun j h1 h2 => by omega⟩
        case round =>
          obtain ⟨q, rfl, hkq, hqs, hall⟩ := hrel
          have HAL : Hid (∀ j, k ≤ j → j < q → ltr (ch s j) = true) := hall
          clear hall
          have hgo : (∃ hql : q < s.size, ltr ((s[q]'hql).toNat : Int) = true) ∨ (q = s.size ∨ ∃ hql : q < s.size, ltr ((s[q]'hql).toNat : Int) = false) := by
            by_cases hql : q < s.size
            · cases e : ltr ((s[q]'hql).toNat : Int)
              · exact .inr (.inr ⟨hql, e⟩)
              · exact .inl ⟨hql, e⟩
            · exact .inr (.inl (by omega))
          rcases hgo with ⟨hql, hlq⟩ | hend
          · have hqz : (q : Int) < (s.size : Int) := by omega
            have HQ : Hid (ltr (ch s q) = true) := (by rw [← ch_at s q hql]; exact hlq : ltr (ch s q) = true)
            obtain ⟨c2, hc2⟩ : ∃ c2, cl ((s[q]'hql).toNat : Int) = c2 := ⟨_, rfl⟩
            have hpos2 : (0 : Int) < c2 := by
              have h1 := Lv.cl_range ((s[q]'hql).toNat : Int)
              have h2 : cl ((s[q]'hql).toNat : Int) ≠ 0 := fun e => by rw [(Lv.cl_zero _).1 e] at hlq; cases hlq
              omega
            clear hlq
            go_wp2_with (first | (go_at_call 9; refine (Lv.class_any _ _).mono ?_; rw [hc2]; rintro e w' ⟨rfl, hw'⟩; replace hw' := hw'.symm; subst hw'))
            go_round
            case rel => exact ⟨q + 1, by go_num, by omega, by omega, fun j h1 h2 => by
              by_cases e : j = q
              · subst e; exact HQ.out
              · exact HAL.out j h1 (by omega)⟩
            case measure => simp [intOf]; omega
          · have hend' : q = s.size ∨ ltr (ch s q) = false := hend.imp id (fun ⟨hql, e⟩ => by rw [← ch_at s q hql]; exact e)
            have hkq' : k < q := by
              rcases Nat.lt_or_ge k q with h | h
              · exact h
              · obtain rfl : k = q := by omega
                rcases hend' with e | e
                · omega
                · rw [HL0.out] at e; cases e
            have HF := fst_let hkq' hqs HAL.out hend'
            have HUS := ext_size s k q (by omega) hqs
            have HU0 := ext_ch s k q hkq' hqs
            have hsl : ∀ W : World, (Instr.slice 9 (.string s) (some (.int .i64 (k : Int))) (some (.int .i64 (q : Int))) none).run Tryd.prog W = .ok (.string (s.extract k q)) W := fun W => by
              have := run_slice_string (P := Tryd.prog) (w := W) 9 s .i64 .i64 (k : Int) (q : Int) Tryd.underlying9 (by omega) (by omega) (by omega)
              rw [show ((k : Int)).toNat = k by omega, show ((q : Int)).toNat = q by omega] at this
              exact this
            have HLEN := let_len (s.extract k q)
            rw [← HF, HUS] at HLEN
            obtain ⟨u, hu⟩ : ∃ u, s.extract k q = u := ⟨_, rfl⟩
            rw [hu] at HF HUS HU0 hsl
            clear hu
            have husm : u.size ≤ maxLen := by unfold maxLen; omega
            have HQL : Hid (k + (fst s k).len = q) := (by rw [HLEN]; omega : k + (fst s k).len = q)
            rw [HQL.out] at HTOK
            clear HQL HLEN hfit HPOS
            have HEQ : Hid (fst s k = letT u) := HF
            have HUZ : Hid (u.size = q - k) := HUS
            have HUC : Hid (ch u 0 = ch s k) := HU0
            have HKQ : Hid (k < q) := hkq'
            clear HF HUS HU0 hkq'
            have hex : (∃ hql : q < s.size, cl ((s[q]'hql).toNat : Int) = 0) ∨ q = s.size := hend.elim .inr (fun ⟨hql, e⟩ => .inl ⟨hql, (Lv.cl_zero _).2 e⟩)
            clear hend hend'
            by_cases hd : c = 3
            · have c3 : (c == 3) = true := by rw [hd]; rfl
              have HD : Hid (48 ≤ ch u 0 ∧ ch u 0 ≤ 57) := (by rw [HUC.out]; exact HDG.out.1 hd : 48 ≤ ch u 0 ∧ ch u 0 ≤ 57)
              clear hd
              by_cases hg : Tn.good u
              · rw [HEQ.out, let_good HD.out hg] at HTOK
                have HT1 : Hid (LX s 0 [] = LX s q (T ++ [⟨3, (Tn.dv 0 u.data.toList : Nat), ⟨#[]⟩, k⟩])) := HTOK.out rfl
                clear HTOK HBAD HEQ HD
                rcases hex with ⟨hql, hce⟩ | hqe
                · have hqz : (q : Int) < (s.size : Int) := by omega
                  have hnp : ¬ (0 : Int) < 0 := by decide
                  go_wp2_with (first
                    | (go_at_call 9; clear hnp; refine (Lv.class_any _ _).mono ?_; rw [hce]; rintro e w' ⟨rfl, hw'⟩; replace hw' := hw'.symm; subst hw'; have tk2 : True := trivial)
                    | (go_at_call 9; clear tk2; refine (Lv.class_any _ _).mono ?_; rw [hc]; rintro e w' ⟨rfl, hw'⟩; replace hw' := hw'.symm; subst hw')
                    | (go_at_call 11; refine (Tn.specTn_any u _ husm).mono ?_; rintro e w2 ⟨hor, hb2⟩; replace hor := (hor.resolve_right (fun q => q.1 hg)).2; subst hor; have ho2 := own_below HOW.out hb2; have hbel2 := Rw.next hbel hb2)
                    | (at_builtin; refine wpList_appT rfl _ _ rfl w.heap.size _ 1 _ T ⟨3, (Tn.dv 0 u.data.toList : Nat), ⟨#[]⟩, k⟩ rfl rfl ((ho2).alloc _) (by have := (hbel2).size; simp; omega) (at_new (by simp)) (by omega) ?_; intro v3 w3 hown3 hgr3; have hbel3 := own_grown ((ho2).alloc _) (Rw.next (hbel2) (below_alloc1 _ _)) hgr3))
                  go_roundw
                  case rel => exact ⟨T ++ [⟨3, (Tn.dv 0 u.data.toList : Nat), ⟨#[]⟩, k⟩], q, rfl, hqs, hown3, hbel3, HT1.out, by have := HKQ.out; simp; omega⟩
                  case measure => have := HKQ.out; simp [intOf]; omega
                · have hqz : ¬ (q : Int) < (s.size : Int) := by omega
                  clear hqe
                  go_wp2_with (first
                    | (go_at_call 9; refine (Lv.class_any _ _).mono ?_; rw [hc]; rintro e w' ⟨rfl, hw'⟩; replace hw' := hw'.symm; subst hw')
                    | (go_at_call 11; refine (Tn.specTn_any u _ husm).mono ?_; rintro e w2 ⟨hor, hb2⟩; replace hor := (hor.resolve_right (fun q => q.1 hg)).2; subst hor; have ho2 := own_below HOW.out hb2; have hbel2 := Rw.next hbel hb2)
                    | (at_builtin; refine wpList_appT rfl _ _ rfl w.heap.size _ 1 _ T ⟨3, (Tn.dv 0 u.data.toList : Nat), ⟨#[]⟩, k⟩ rfl rfl ((ho2).alloc _) (by have := (hbel2).size; simp; omega) (at_new (by simp)) (by omega) ?_; intro v3 w3 hown3 hgr3; have hbel3 := own_grown ((ho2).alloc _) (Rw.next (hbel2) (below_alloc1 _ _)) hgr3))
                  go_roundw
                  case rel => exact ⟨T ++ [⟨3, (Tn.dv 0 u.data.toList : Nat), ⟨#[]⟩, k⟩], q, rfl, hqs, hown3, hbel3, HT1.out, by have := HKQ.out; simp; omega⟩
                  case measure => have := HKQ.out; simp [intOf]; omega
              · rw [HEQ.out, let_nogood HD.out hg] at HBAD
                have HB : Hid (LX s 0 [] = ([], 3, (k : Int))) := HBAD.out (by simp)
                clear HTOK HBAD HEQ HD
                rcases hex with ⟨hql, hce⟩ | hqe
                · have hqz : (q : Int) < (s.size : Int) := by omega
                  have hnp : ¬ (0 : Int) < 0 := by decide
                  go_wp2_with (first
                    | (go_at_call 9; clear hnp; refine (Lv.class_any _ _).mono ?_; rw [hce]; rintro e w' ⟨rfl, hw'⟩; replace hw' := hw'.symm; subst hw'; have tk2 : True := trivial)
                    | (go_at_call 9; clear tk2; refine (Lv.class_any _ _).mono ?_; rw [hc]; rintro e w' ⟨rfl, hw'⟩; replace hw' := hw'.symm; subst hw')
                    | (go_at_call 11; refine (Tn.specTn_any u _ husm).mono ?_; rintro e w2 ⟨hor, hb2⟩; replace hor := (hor.resolve_left (fun q => hg q.1)).2; subst hor; have ho2 := own_below HOW.out hb2; have hbel2 := Rw.next hbel hb2))
                  refine bodyPost_ret (v := .tuple #[.slice none 0 0, .int .i64 3, .int .i64 (k : Int)]) (by simp [results, Tryd.results4, go_sem]) rfl ?_
                  rw [HB.out]
                  exact ⟨hbel2, _, World.ownsRow_nil _ _ _ _, rfl⟩
                · have hqz : ¬ (q : Int) < (s.size : Int) := by omega
                  clear hqe
                  go_wp2_with (first
                    | (go_at_call 9; refine (Lv.class_any _ _).mono ?_; rw [hc]; rintro e w' ⟨rfl, hw'⟩; replace hw' := hw'.symm; subst hw')
                    | (go_at_call 11; refine (Tn.specTn_any u _ husm).mono ?_; rintro e w2 ⟨hor, hb2⟩; replace hor := (hor.resolve_left (fun q => hg q.1)).2; subst hor; have ho2 := own_below HOW.out hb2; have hbel2 := Rw.next hbel hb2))
                  refine bodyPost_ret (v := .tuple #[.slice none 0 0, .int .i64 3, .int .i64 (k : Int)]) (by simp [results, Tryd.results4, go_sem]) rfl ?_
                  rw [HB.out]
                  exact ⟨hbel2, _, World.ownsRow_nil _ _ _ _, rfl⟩
            · have c3 : (c == 3) = false := by simpa using hd
              have HD : Hid (¬ (48 ≤ ch u 0 ∧ ch u 0 ≤ 57)) := (by rw [HUC.out]; exact fun h => hd (HDG.out.2 h) : ¬ (48 ≤ ch u 0 ∧ ch u 0 ≤ 57))
              clear hd
              cases hw : Word.wordB u with
              | true =>
                rw [HEQ.out, let_word HD.out hw] at HTOK
                have HT1 : Hid (LX s 0 [] = LX s q (T ++ [⟨1, 0, u, k⟩])) := HTOK.out rfl
                clear HTOK HBAD HEQ HD
                rcases hex with ⟨hql, hce⟩ | hqe
                · have hqz : (q : Int) < (s.size : Int) := by omega
                  have hnp : ¬ (0 : Int) < 0 := by decide
                  go_wp2_with (first
                    | (go_at_call 9; clear hnp; refine (Lv.class_any _ _).mono ?_; rw [hce]; rintro e w' ⟨rfl, hw'⟩; replace hw' := hw'.symm; subst hw'; have tk2 : True := trivial)
                    | (go_at_call 9; clear tk2; refine (Lv.class_any _ _).mono ?_; rw [hc]; rintro e w' ⟨rfl, hw'⟩; replace hw' := hw'.symm; subst hw')
                    | (go_at_call 12; refine (Word.specWord_any u _ husm).mono ?_; rw [hw]; rintro e w' ⟨rfl, hw'⟩; replace hw' := hw'.symm; subst hw')
                    | (at_builtin; refine wpList_appT rfl _ _ rfl w.heap.size _ 1 _ T ⟨1, 0, u, k⟩ rfl rfl ((HOW.out).alloc _) (by have := (hbel).size; simp; omega) (at_new (by simp)) (by omega) ?_; intro v3 w3 hown3 hgr3; have hbel3 := own_grown ((HOW.out).alloc _) (Rw.next (hbel) (below_alloc1 _ _)) hgr3))
                  go_roundw
                  case rel => exact ⟨T ++ [⟨1, 0, u, k⟩], q, rfl, hqs, hown3, hbel3, HT1.out, by have := HKQ.out; simp; omega⟩
                  case measure => have := HKQ.out; simp [intOf]; omega
                · have hqz : ¬ (q : Int) < (s.size : Int) := by omega
                  clear hqe
                  go_wp2_with (first
                    | (go_at_call 9; refine (Lv.class_any _ _).mono ?_; rw [hc]; rintro e w' ⟨rfl, hw'⟩; replace hw' := hw'.symm; subst hw')
                    | (go_at_call 12; refine (Word.specWord_any u _ husm).mono ?_; rw [hw]; rintro e w' ⟨rfl, hw'⟩; replace hw' := hw'.symm; subst hw')
                    | (at_builtin; refine wpList_appT rfl _ _ rfl w.heap.size _ 1 _ T ⟨1, 0, u, k⟩ rfl rfl ((HOW.out).alloc _) (by have := (hbel).size; simp; omega) (at_new (by simp)) (by omega) ?_; intro v3 w3 hown3 hgr3; have hbel3 := own_grown ((HOW.out).alloc _) (Rw.next (hbel) (below_alloc1 _ _)) hgr3))
                  go_roundw
                  case rel => exact ⟨T ++ [⟨1, 0, u, k⟩], q, rfl, hqs, hown3, hbel3, HT1.out, by have := HKQ.out; simp; omega⟩
                  case measure => have := HKQ.out; simp [intOf]; omega
              | false =>
                cases hv : varB u with
                | true =>
                  rw [HEQ.out, let_var HD.out hw hv] at HTOK
                  have HT1 : Hid (LX s 0 [] = LX s q (T ++ [⟨2, 0, u, k⟩])) := HTOK.out rfl
                  clear HTOK HBAD HEQ HD
                  rcases hex with ⟨hql, hce⟩ | hqe
                  · have hqz : (q : Int) < (s.size : Int) := by omega
                    have hnp : ¬ (0 : Int) < 0 := by decide
                    go_wp2_with (first
                      | (go_at_call 9; clear hnp; refine (Lv.class_any _ _).mono ?_; rw [hce]; rintro e w' ⟨rfl, hw'⟩; replace hw' := hw'.symm; subst hw'; have tk2 : True := trivial)
                      | (go_at_call 9; clear tk2; refine (Lv.class_any _ _).mono ?_; rw [hc]; rintro e w' ⟨rfl, hw'⟩; replace hw' := hw'.symm; subst hw')
                      | (go_at_call 12; refine (Word.specWord_any u _ husm).mono ?_; rw [hw]; rintro e w' ⟨rfl, hw'⟩; replace hw' := hw'.symm; subst hw')
                      | (go_at_call 13; refine (Lv.varS_any u _ husm).mono ?_; rw [hv]; rintro e w' ⟨rfl, hw'⟩; replace hw' := hw'.symm; subst hw')
                      | (at_builtin; refine wpList_appT rfl _ _ rfl w.heap.size _ 1 _ T ⟨2, 0, u, k⟩ rfl rfl ((HOW.out).alloc _) (by have := (hbel).size; simp; omega) (at_new (by simp)) (by omega) ?_; intro v3 w3 hown3 hgr3; have hbel3 := own_grown ((HOW.out).alloc _) (Rw.next (hbel) (below_alloc1 _ _)) hgr3))
                    go_roundw
                    case rel => exact ⟨T ++ [⟨2, 0, u, k⟩], q, rfl, hqs, hown3, hbel3, HT1.out, by have := HKQ.out; simp; omega⟩
                    case measure => have := HKQ.out; simp [intOf]; omega
                  · have hqz : ¬ (q : Int) < (s.size : Int) := by omega
                    clear hqe
                    go_wp2_with (first
                      | (go_at_call 9; refine (Lv.class_any _ _).mono ?_; rw [hc]; rintro e w' ⟨rfl, hw'⟩; replace hw' := hw'.symm; subst hw')
                      | (go_at_call 12; refine (Word.specWord_any u _ husm).mono ?_; rw [hw]; rintro e w' ⟨rfl, hw'⟩; replace hw' := hw'.symm; subst hw')
                      | (go_at_call 13; refine (Lv.varS_any u _ husm).mono ?_; rw [hv]; rintro e w' ⟨rfl, hw'⟩; replace hw' := hw'.symm; subst hw')
                      | (at_builtin; refine wpList_appT rfl _ _ rfl w.heap.size _ 1 _ T ⟨2, 0, u, k⟩ rfl rfl ((HOW.out).alloc _) (by have := (hbel).size; simp; omega) (at_new (by simp)) (by omega) ?_; intro v3 w3 hown3 hgr3; have hbel3 := own_grown ((HOW.out).alloc _) (Rw.next (hbel) (below_alloc1 _ _)) hgr3))
                    go_roundw
                    case rel => exact ⟨T ++ [⟨2, 0, u, k⟩], q, rfl, hqs, hown3, hbel3, HT1.out, by have := HKQ.out; simp; omega⟩
                    case measure => have := HKQ.out; simp [intOf]; omega
                | false =>
                  rw [HEQ.out, let_none HD.out hw hv] at HBAD
                  have HB : Hid (LX s 0 [] = ([], 4, (k : Int))) := HBAD.out (by simp)
                  clear HTOK HBAD HEQ HD
                  rcases hex with ⟨hql, hce⟩ | hqe
                  · have hqz : (q : Int) < (s.size : Int) := by omega
                    have hnp : ¬ (0 : Int) < 0 := by decide
                    go_wp2_with (first
                      | (go_at_call 9; clear hnp; refine (Lv.class_any _ _).mono ?_; rw [hce]; rintro e w' ⟨rfl, hw'⟩; replace hw' := hw'.symm; subst hw'; have tk2 : True := trivial)
                      | (go_at_call 9; clear tk2; refine (Lv.class_any _ _).mono ?_; rw [hc]; rintro e w' ⟨rfl, hw'⟩; replace hw' := hw'.symm; subst hw')
                      | (go_at_call 12; refine (Word.specWord_any u _ husm).mono ?_; rw [hw]; rintro e w' ⟨rfl, hw'⟩; replace hw' := hw'.symm; subst hw')
                      | (go_at_call 13; refine (Lv.varS_any u _ husm).mono ?_; rw [hv]; rintro e w' ⟨rfl, hw'⟩; replace hw' := hw'.symm; subst hw'))
                    refine bodyPost_ret (v := .tuple #[.slice none 0 0, .int .i64 4, .int .i64 (k : Int)]) (by simp [results, Tryd.results4, go_sem]) rfl ?_
                    rw [HB.out]
                    exact ⟨hbel, _, World.ownsRow_nil _ _ _ _, rfl⟩
                  · have hqz : ¬ (q : Int) < (s.size : Int) := by omega
                    clear hqe
                    go_wp2_with (first
                      | (go_at_call 9; refine (Lv.class_any _ _).mono ?_; rw [hc]; rintro e w' ⟨rfl, hw'⟩; replace hw' := hw'.symm; subst hw')
                      | (go_at_call 12; refine (Word.specWord_any u _ husm).mono ?_; rw [hw]; rintro e w' ⟨rfl, hw'⟩; replace hw' := hw'.symm; subst hw')
                      | (go_at_call 13; refine (Lv.varS_any u _ husm).mono ?_; rw [hv]; rintro e w' ⟨rfl, hw'⟩; replace hw' := hw'.symm; subst hw'))
                    refine bodyPost_ret (v := .tuple #[.slice none 0 0, .int .i64 4, .int .i64 (k : Int)]) (by simp [results, Tryd.results4, go_sem]) rfl ?_
                    rw [HB.out]
                    exact ⟨hbel, _, World.ownsRow_nil _ _ _ _, rfl⟩
    · have hkz : ¬ (k : Int) < (s.size : Int) := by omega
      have HE : Hid (LX s 0 [] = (T, 0, 0)) := HLX.out.trans (LX_end (by omega) T)
      go_wp2
      refine bodyPost_ret (v := .tuple #[_, .int .i64 0, .int .i64 0]) (by simp [results, Tryd.results4, go_sem]; rfl) rfl ?_
      rw [HE.out]
      exact ⟨hbel, _, hown, rfl⟩

end Go.Proofs.YtpjgedhkanmbpaaDoor.Lo
