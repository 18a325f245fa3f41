/-
  Rows gathered: plain.
-/
import Derived.Test.YtfiebakgphcnbaaIa
import Derived.Test.YtfiebakgphcnbaaIc
import Derived.Test.YtfiebakgphcnbaaRo
import Derived.Test.YtfiebakgphcnbaaRq
namespace Go.Proofs.Ytfiebakgphcnbaa.Rl
set_option maxRecDepth 8000
set_option linter.unusedSimpArgs false
set_option linter.unusedVariables false
open Go Go.RowKit
open Num Word Pl Rp
open Vl (ordRow rowB)

def gset (L : List RowL) : List RowL := L.foldl putL []
theorem gset_app (L : List RowL) (x : RowL) : gset (L ++ [x]) = putL (gset L) x := by simp [gset]
theorem gset_mem (L : List RowL) (z : RowL) : z ∈ gset L ↔ z ∈ L := by rw [gset, foldput_mem]; simp
def Fits (ar : Int) (L : List RowL) : Prop := ∀ l ∈ L, (l.length : Int) = ar ∧ rowB l = true
theorem Fits.ok {ar : Int} {L : List RowL} (h : Fits ar L) : AllOk L := fun l hl => okL_of (h l hl).2
theorem gset_sorted {ar : Int} {L : List RowL} (h : Fits ar L) : Sorted (gset L) := foldput_sorted L [] List.Pairwise.nil (fun _ h => by simp at h) h.ok
theorem gset_rel {ar : Int} {L : List RowL} (h0 : 0 ≤ ar) (h6 : ar ≤ 6) (h : Fits ar L) (hl : (gset L).length ≤ 300) : RelP ar (gset L) :=
  ⟨h0, h6, hl, fun l q => (h l ((gset_mem L l).1 q)).1, fun l q => (h l ((gset_mem L l).1 q)).2, fun l q => h.ok l ((gset_mem L l).1 q), gset_sorted h⟩
theorem Fits.pre {ar : Int} {L M : List RowL} (h : Fits ar L) (p : M <+: L) : Fits ar M := fun l q => h l (p.subset q)
theorem put_le (R : List RowL) (x : RowL) : R.length ≤ (putL R x).length := by
  unfold putL
  split
  · exact Nat.le_refl _
  · have : ∀ R : List RowL, (insL x R).length = R.length + 1 := by
      intro R
      induction R with
      | nil => rfl
      | cons y l ih => rw [insL]; split <;> simp [ih]
    rw [this]; omega
theorem gset_le {L M : List RowL} (p : M <+: L) : (gset M).length ≤ (gset L).length := by
  obtain ⟨t, rfl⟩ := p
  induction t generalizing M with
  | nil => simp
  | cons x t ih =>
    have := ih (M := M ++ [x])
    rw [gset_app, List.append_assoc] at this
    exact Nat.le_trans (put_le _ _) this
/-- The place of a row among sorted ones. -/
theorem ins_place {R : List RowL} {m : RowL} {k : Nat} (hm : okL m) (o : AllOk R) (hs : Sorted R) (hn : m ∉ R) (hk : k ≤ R.length) (h1 : ∀ x ∈ R.take k, ordRow x m < 0) (h2 : ∀ x ∈ R.drop k, ordRow m x < 0) : R.take k ++ m :: R.drop k = putL R m := by
  have e : R.take k ++ R.drop k = R := List.take_append_drop k R
  refine sorted_ext ?_ (put_sorted hm hs o) fun z => ?_
  · have hs' := hs
    unfold Sorted at hs' ⊢
    rw [← e] at hs'
    rw [List.pairwise_append] at hs' ⊢
    refine ⟨hs'.1, List.pairwise_cons.2 ⟨h2, hs'.2.1⟩, fun x hx y hy => ?_⟩
    rcases List.mem_cons.1 hy with rfl | hy
    · exact h1 x hx
    · exact hs'.2.2 x hx y hy
  · rw [put_mem]
    constructor
    · intro h
      rcases List.mem_append.1 h with q | q
      · exact .inr (List.mem_of_mem_take q)
      · rcases List.mem_cons.1 q with q | q
        · exact .inl q
        · exact .inr (List.mem_of_mem_drop q)
    · rintro (rfl | h)
      · simp
      · rw [← e] at h
        rcases List.mem_append.1 h with q | q
        · exact List.mem_append.2 (.inl q)
        · exact List.mem_append.2 (.inr (List.mem_cons.2 (.inr q)))
/-- The search's place, over rows in memory. -/
theorem place_said {ar : Int} {F : List Rm} {m : RowL} {k : Nat} (hr : RelP ar (said F)) (hm : rowB m = true) (hn : m ∉ said F) (hk : k ≤ F.length)
    (h1 : ∀ j, j < k → Vl.rordB (F.getD j rm0).l m < 0) (h2 : ∀ j, k ≤ j → j < F.length → 0 ≤ Vl.rordB (F.getD j rm0).l m) (r : Rm) (hrl : r.l = m) :
    said (F.take k ++ r :: F.drop k) = putL (said F) m := by
  have e : said (F.take k ++ r :: F.drop k) = (said F).take k ++ m :: (said F).drop k := by simp [said, hrl, List.map_take, List.map_drop]
  have at_ : ∀ j (hj : j < F.length), (said F)[j]'(by rw [said_len]; exact hj) = (F.getD j rm0).l := fun j hj => by rw [← said_at hj]; simp [List.getD, said_len, hj]
  rw [e]
  refine ins_place (okL_of hm) hr.ok hr.sorted hn (by rw [said_len]; exact hk) (fun x hx => ?_) (fun x hx => ?_)
  · obtain ⟨j, hj, rfl⟩ := List.getElem_of_mem hx
    have hjk : j < k ∧ j < F.length := by simp [said_len] at hj; omega
    rw [List.getElem_take, at_ j hjk.2]
    have := h1 j hjk.1
    rwa [rord_right (hr.right _ (by rw [← at_ j hjk.2]; exact List.getElem_mem _)) hm] at this
  · obtain ⟨j, hj, rfl⟩ := List.getElem_of_mem hx
    have hjk : k + j < F.length := by simp [said_len] at hj; omega
    rw [List.getElem_drop, at_ _ hjk]
    have mem : (F.getD (k + j) rm0).l ∈ said F := by rw [← at_ _ hjk]; exact List.getElem_mem _
    have := h2 (k + j) (by omega) hjk
    rw [rord_right (hr.right _ mem) hm] at this
    have ne : ordRow (F.getD (k + j) rm0).l m ≠ 0 := fun q => hn (by rw [← ordRow_eq (hr.ok _ mem) (okL_of hm) q]; exact mem)
    have := ordRow_neg (F.getD (k + j) rm0).l m
    omega

/-- What is handed to a loop over rows. -/
def encR (r : Rm) : Array Value := #[.agg #[r.val]]
def RY (L : List RowL) (pre : List Rm) (g : Nat) (x : Rm) (A : World) : Prop := (said pre ++ [x.l]) <+: L ∧ x.Ok A ∧ (x.l.length ≠ 0 → x.b ≠ g)
/-- An iterator over rows: what they say, one after the other, is L. -/
abbrev SeqR (gf : Nat) (lb : Array Value) (L : List RowL) (mem : Nat → Prop) (w0 : World) : Prop := Ia.Seq Try.prog gf lb encR (RY L) (fun xs => said xs = L) (fun pre => said pre <+: L) mem w0
theorem cells_of_cell {W : World} {a : Addr} {v : Value} (h : W.cell? a = some v) : ∃ o : Obj, W.heap[a.block]? = some o ∧ o.isCells = true := by
  unfold World.cell? at h
  cases ho : W.heap[a.block]? with
  | none => simp [ho] at h
  | some o => exact ⟨o, rfl, by cases o <;> simp_all [Obj.isCells]⟩
theorem calm_blk {B k : Nat} {W W' : World} {cs : Array Value} {t : TypeId} {f : Nat × Nat} (h : Ia.Calm B W W') (hk : W.heap[k]? = some (.cells cs t f)) : W'.heap[k]? = some (.cells cs t f) := h.block k _ hk (.inl rfl)
theorem calm_ok {B : Nat} {W W' : World} {r : Rm} (h : Ia.Calm B W W') (hr : r.Ok W) : r.Ok W' := by
  refine vrd_keep hr ?_
  by_cases h0 : r.l.length = 0
  · exact .inl h0
  · right
    obtain ⟨o, ho, hc⟩ := cells_of_cell ((hr.cell 0 (by omega)).1)
    rw [h.block _ o ho (.inl hc)]; exact ho.symm
theorem RY.calm {L : List RowL} {B : Nat} {pre : List Rm} {g : Nat} {x : Rm} {W W' : World} (h : RY L pre g x W) (hc : Ia.Calm B W W') : RY L pre g x W' := ⟨h.1, calm_ok hc h.2.1, h.2.2⟩
theorem calm_og {B B' : Nat} {W W' : World} {v : Value} {F : List Rm} (h : Ia.Calm B W W') (hg : OG W B' v F) : OG W' B' v F := by
  refine ⟨⟨hg.own.1, ?_⟩, fun r hr => calm_ok h (hg.each r hr), hg.far⟩
  rcases hg.own.2 with ⟨e1, e2⟩ | ⟨g, cap, cur, e1, hb, hgg, rest⟩
  · exact .inl ⟨e1, e2⟩
  · exact .inr ⟨g, cap, cur, e1, hb, calm_blk h hgg, rest⟩
/-- What is gathered. -/
def GA (ar : Int) (L : List RowL) (x : Int) (X : List RowL) (c : Bool) : Prop := if (gset L).length ≤ 300 then x = ar ∧ X = gset L ∧ c = true else x = 0 ∧ X = [] ∧ c = false
theorem GA_some (ar : Int) (L : List RowL) : ∃ x X c, GA ar L x X c ∧ X.length ≤ 300 := by
  unfold GA
  split
  · rename_i h; exact ⟨_, _, _, ⟨rfl, rfl, rfl⟩, h⟩
  · exact ⟨_, _, _, ⟨rfl, rfl, rfl⟩, by simp⟩

end Go.Proofs.Ytfiebakgphcnbaa.Rl
