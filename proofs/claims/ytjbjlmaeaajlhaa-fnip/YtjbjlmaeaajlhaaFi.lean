/-
  What the law FnIp needs: a datagram read back; strings of bytes.
-/
import Derived.Test.YtjbjlmaeaajlhaaFs
import Derived.Test.YtjbjlmaeaajlhaaRk
import Derived.Test.YtjbjlmaeaajlhaaBack
namespace Go.Proofs.Ytjbjlmaeaajlhaa.Fi
open Go Go.RowKit
open Num Rw Mk Un Put Pl App Pf Pb Ipl Hp Hd Su Cd Ir

theorem writes0 (t p s d : Int) (w : World) (hok : Ik.okI t p s d 0 = true) (L : List Int) (hL : L = ipL t p s d []) :
    Calls Try.prog 18 #[.agg #[.int .i64 t, .int .i64 p, .int .i64 s, .int .i64 d, .slice none 0 0]] w (Written w L) :=
  writes t p s d none 0 0 0 [] w (rd_none w none 0 0) hok L hL

theorem code_ip {t p s d : Int} {q : List Int} (hok : Ik.okI t p s d q.length = true) : code (ipL t p s d q) = 0 := by
  obtain ⟨ht, hp, hs, hd, hl⟩ := Ik.okI_parts hok
  obtain ⟨c0, c1, c4, c2, c5, _⟩ := ip_facts ht hp hs hd hl
  have hlen := ip_len t p s d q
  unfold code
  rw [if_neg (by omega), if_neg (by simpa using c0), if_neg (by simp only [c1, c4]; simp), if_neg (by simpa using c2), if_neg (by simpa using c5)]
theorem readsBack (t p s d : Int) (q : List Int) (hok : Ik.okI t p s d q.length = true) (L : List Int) (hL : L = ipL t p s d q) (a : Option Addr) (b off cap : Nat) (w : World) (h : Rd w a b off L) (hc : L.length ≤ cap) :
    Calls Try.prog 25 #[.slice a L.length cap] w (ResC w t p s d 0 q) := by
  subst hL
  obtain ⟨ht, hp, hs, hd, hl⟩ := Ik.okI_parts hok
  obtain ⟨_, _, _, _, _, c8, c9, c12, c16⟩ := ip_facts ht hp hs hd hl
  have := Rk.reads (code_ip hok) a b off cap w h hc
  rw [c8, c9, c12, c16, ip_drop] at this
  exact this

/-- The bytes as a string. -/
def str (l : List Int) : ByteArray := ⟨(l.map (fun x => UInt8.ofNat x.toNat)).toArray⟩
theorem conv {w : World} {a : Option Addr} {b off : Nat} {l : List Int} (cap : Nat) (h : Rd w a b off l) : (convert 22 9 (.slice a l.length cap)).run Try.prog w = .ok (.string (str l)) w := Bk.conv_any cap h
theorem ok_less {t p s d : Int} {n : Nat} (hok : Ik.okI t p s d n = true) (ht : 2 ≤ t) : Ik.okI (t - 1) p s d n = true := by
  obtain ⟨h1, h2, h3, h4, h5⟩ := Ik.okI_parts hok
  have hb := ok1 h1
  unfold Ik.okI
  rw [mk1 (by omega) (by omega), h2, h3, h4, decide_eq_true h5]
  rfl
theorem ok_zero : Ik.okI 0 0 0 0 0 = true := by decide

end Go.Proofs.Ytjbjlmaeaajlhaa.Fi
