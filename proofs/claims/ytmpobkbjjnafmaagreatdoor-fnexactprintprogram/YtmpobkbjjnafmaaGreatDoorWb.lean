/-
  A text that is written by a closure: what the closure leaves.
-/
import Derived.Test.YtmpobkbjjnafmaaGreatDoorWa
import Derived.Test.YtmpobkbjjnafmaaGreatDoorShelfw
import Derived.Lib.OthersKept
namespace Go.Proofs.YtmpobkbjjnafmaaGreatDoor.Wp
set_option maxRecDepth 8000
set_option linter.unusedSimpArgs false
set_option linter.unusedVariables false
open Go Go.ChangeShapes Go.WideShapes Go.RowKit
open Num Word Pl
open Pm (Tm tm0 Dc dc0 Lm lm0 Rm rm0 Atm Pg kdTm kdDc kdLm kdRm Rd Sl told AtL LtL RuL PgL termB atomB litB ruleB declB progB)

/-- Block b is a builder that holds the text t; its bytes lie from block B on. -/
def Bd (B b : Nat) (t : ByteArray) (w : World) : Prop := Lib.IsBuilderF 84 5 B b (Lib.strCells t) w
theorem Bd.lt {B b : Nat} {t : ByteArray} {w : World} (h : Bd B b t w) : B ≤ b ∧ ∃ cs fr, w.heap[b]? = some (.cells cs 84 fr) := by
  rcases h with ⟨h1, v, h2, _⟩ | ⟨h1, v, h2, _⟩
  · exact ⟨h1, _, _, h2⟩
  · exact ⟨h1, _, _, h2⟩
theorem frame_own {w w' : World} {B e : Nat} {v : Value} {n : Nat} {xs : List Value} (h : w.ownsRowF B e 1 v n xs) (hk : ∀ z, z < w.heap.size → w'.heap[z]? = w.heap[z]?) : w'.ownsRowF B e 1 v n xs := by
  refine ⟨h.1, ?_⟩
  rcases h.2 with h0 | ⟨g, cap, cur, fz, rfl, hb, hg, rest⟩
  · exact .inl h0
  · exact .inr ⟨g, cap, cur, fz, rfl, hb, (hk g (blk_lt hg)).trans hg, rest⟩
theorem Bd.below {B b : Nat} {t : ByteArray} {w w' : World} (h : Bd B b t w) (hb : Below w.heap.size w w') : Bd B b t w' := by
  rcases h with ⟨h1, v, h2, h3, h4⟩ | ⟨h1, v, h2, h3, h4⟩
  · exact .inl ⟨h1, v, (hb.block _ (blk_lt h2)).trans h2, frame_own h3 (fun z hz => hb.block z hz), h4⟩
  · exact .inr ⟨h1, v, (hb.block _ (blk_lt h2)).trans h2, frame_own h3 (fun z hz => hb.block z hz), h4⟩
/-- What a writer leaves: the text goes on; what lies below B and what is neither the builder nor bytes stands. -/
def Wr (B b : Nat) (t : ByteArray) (w w' : World) : Prop := Bd B b t w' ∧ Below B w w' ∧ Lib.OthersKept 5 (some b) w w'
theorem ok_below {w w' : World} {b : Nat} (hb : Below w.heap.size w w') : Lib.OthersKept 5 (some b) w w' := fun k o h _ _ => (hb.block k (blk_lt h)).trans h
theorem kept {w w' : World} {b k : Nat} {cs : Array Value} {t : TypeId} {fr : Nat × Nat} (h : Lib.OthersKept 5 (some b) w w') (hk : w.heap[k]? = some (.cells cs t fr)) (hb : k ≠ b) (ht : t ≠ 5) : w'.heap[k]? = some (.cells cs t fr) :=
  h k _ hk (by simpa using hb) (fun c fz e => ht (by injection e))
theorem Wr.next {B b : Nat} {t : ByteArray} {w w1 w2 : World} (hb : Below w.heap.size w w1) (h : Wr B b t w1 w2) (hB : B ≤ w.heap.size) : Wr B b t w w2 :=
  ⟨h.1, (hb.mono hB).trans h.2.1, (ok_below hb).trans h.2.2⟩
theorem Wr.trans {B b : Nat} {t u : ByteArray} {w w1 w2 : World} (h : Wr B b t w w1) (k : Wr B b u w1 w2) : Wr B b u w w2 := ⟨k.1, h.2.1.trans k.2.1, h.2.2.trans k.2.2⟩
theorem Wr.size {B b : Nat} {t : ByteArray} {w w1 : World} (h : Wr B b t w w1) : w.heap.size ≤ w1.heap.size := h.2.1.size
theorem Wr.below {B b n : Nat} {t : ByteArray} {w0 w w1 : World} (h : Wr B b t w w1) (hb : Below n w0 w) (hn : n ≤ B) : Below n w0 w1 := hb.trans (h.2.1.mono hn)
theorem Wr.refl {B b : Nat} {t : ByteArray} {w : World} (h : Bd B b t w) : Wr B b t w w := ⟨h, Below.refl _ _, Lib.OthersKept.refl _ _ _⟩
/-- The closure as a value. -/
def cv (b : Nat) : Value := .func (.func 34) #[] #[.pointer (some ⟨b, 0, none⟩)]
def ctB (T : List ByteArray) : Nat → ByteArray := jn eS (fun x => x) eS eS T
theorem ctB_step (T : List ByteArray) (k : Nat) : ctB T (k + 1) = ctB T k ++ T.getD k eS := by
  simp only [ctB, jn]
  split <;> rw [e_app]

set_option maxHeartbeats 2000000 in
theorem clo_any (B b : Nat) (t : ByteArray) (T : List ByteArray) (pb c : Nat) (w : World) (fr : Nat × Nat) (hI : Bd B b t w) (hBw : B ≤ w.heap.size) (hp : w.heap[pb]? = some (.cells (T.map Value.string).toArray 9 fr)) (hsz : t.size + (ctB T T.length).size ≤ 1000000000) (hT : T.length ≤ 100) :
    Calls Tryz.prog 34 #[.slice (some ⟨pb, 0, none⟩) T.length c, .pointer (some ⟨b, 0, none⟩)] w fun e w' => e = .returned (.tuple #[]) ∧ Wr B b (t ++ ctB T T.length) w w' := by
  obtain ⟨n, hn0⟩ : ∃ n, n = T.length := ⟨_, rfl⟩
  have HN : Hid (n = T.length) := hn0
  rw [← hn0] at hsz hT ⊢
  obtain ⟨hBb, ds, fr2, hbb⟩ := hI.lt
  have hne : pb ≠ b := fun e => by
    rw [e, hbb] at hp
    simp at hp
  have HM : Hid (∀ k, k ≤ n → (ctB T k).size ≤ (ctB T n).size) := fun k hk => jn_mono hk
  have HC : Hid (∀ W, Lib.OthersKept 5 (some b) w W → ∀ k, k < n → W.cell? ⟨pb, k, none⟩ = some (.string (T.getD k eS))) := fun W h k hk => by
    have q := kept h hp hne (by decide)
    have hk' : k < T.length := by omega
    simp [World.cell?, q, List.getD, hk']
  have HS : Hid (∀ k, ctB T (k + 1) = ctB T k ++ T.getD k eS) := ctB_step T
  have H0 : Hid (Wr B b (t ++ ctB T 0) w w) := by
    have : t ++ ctB T 0 = t := app_e t
    rw [Hid, this]; exact Wr.refl hI
  have HZ : Hid (t.size + (ctB T n).size ≤ 1000000000) := hsz
  clear hn0 hp hbb hI hsz hne
  go_enter Tryz.func34, Tryz.ntmps34
  go_wp2
  go_loopw [7] (fun i wr => ∃ k : Nat, k ≤ n ∧ i = .int .i64 k ∧ Wr B b (t ++ ctB T k) w wr) (fun i _ => n - (intOf i).toNat)
  case atStart => exact ⟨0, Nat.zero_le _, rfl, H0.out⟩
  case round =>
    obtain ⟨k, hk, rfl, hW⟩ := hrel
    have HW : Hid (Wr B b (t ++ ctB T k) w wr) := hW
    by_cases hlt : k < n
    · have hkz : (k : Int) < (n : Int) := by omega
      have p := HC.out wr hW.2.2 k hlt
      have HS1 : Hid (ctB T (k + 1) = ctB T k ++ T.getD k eS) := HS.out k
      have HM1 : Hid ((ctB T k).size + (T.getD k eS).size ≤ (ctB T n).size) := by
        have := HM.out (k + 1) hlt
        rw [HS1.out, sz] at this
        exact this
      generalize T.getD k eS = x at p HS1 HM1
      have hcon := Tryz.WriteString B b (Lib.strCells (t ++ ctB T k)) x wr hW.1 (by have := HM1.out; have := HZ.out; rw [Lib.strCells_length, sz]; omega) (Nat.le_trans hBw HW.out.size)
      have HE : Hid (∀ W, Lib.BuilderAtF 84 5 B b (.pointer (some ⟨b, 0, none⟩)) (Lib.strCells (t ++ ctB T k) ++ Lib.strCells x) W → Bd B b (t ++ ctB T (k + 1)) W) := fun W h => by
        have e : Lib.strCells (t ++ ctB T k) ++ Lib.strCells x = Lib.strCells (t ++ ctB T (k + 1)) := by
          rw [HS1.out, ← app_assoc]
          simp [Lib.strCells]
        rw [e] at h
        exact .inr h
      clear hW
      go_wp2_with (go_at_call 35; refine hcon.mono ?_; rintro e w2 ⟨rfl, h1, h2, h3⟩)
      go_roundw
      case rel => exact ⟨k + 1, by omega, by go_num, HW.out.trans ⟨HE.out _ h1, h2, h3⟩⟩
      case measure => simp [intOf]; omega
    · have he : k = n := by omega
      subst he
      clear hW
      go_wp2
      refine bodyPost_end (v := .tuple #[]) (by simp [results, Tryz.results34, go_sem]) rfl ⟨rfl, HW.out⟩

end Go.Proofs.YtmpobkbjjnafmaaGreatDoor.Wp
