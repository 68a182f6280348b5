/- Layer 17, walked: the reference's Pass. -/
import Derived.Test.YtbdhibcbpgjbmaaGreatDoorRxC
import Derived.Test.YtbdhibcbpgjbmaaGreatDoorCat
import Derived.Test.YtbdhibcbpgjbmaaGreatDoorShP
namespace Go.Proofs.YtbdhibcbpgjbmaaGreatDoor
set_option maxRecDepth 100000
open Go.RowKit Fl
set_option linter.unusedVariables false

theorem own_lower {w : World} {b1 b2 : Nat} {e : TypeId} {v : Value} {n : Nat} {xs : List Value} (h : w.ownsRow b1 e 1 v n xs) (hb : b2 ≤ b1) : w.ownsRow b2 e 1 v n xs := by
 refine ⟨h.1, ?_⟩
 rcases h.2 with h2 | ⟨g, cap, cur, h1, h2, h3⟩
 ·exact .inl h2
 ·exact .inr ⟨g, cap, cur, h1, Nat.le_trans hb h2, h3⟩
theorem own_forms {w : World} {base n : Nat} {e : TypeId} {v : Value} {xs : List Value} (h : w.ownsRow base e 1 v n xs) : (v = .slice none 0 0 ∧ n = 0) ∨ ∃ g cap, v = .slice (some ⟨g, 0, none⟩) n cap ∧ n ≤ cap ∧ cap ≤ maxLen := by
 rcases h.2 with h2 | ⟨g, cap, cur, h1, h2, h3, h4, h5, _⟩
 ·exact .inl h2
 ·exact .inr ⟨g, cap, h1, h4, h5⟩
theorem zL_app (a b : List Nat) : zL (a ++ b) = zL a ++ zL b := by unfold zL; rw [List.map_append]
theorem zL_take (l : List Nat) (k : Nat) : zL (l.take k) = (zL l).take k := by unfold zL; rw [List.map_take]
theorem zL_drop (l : List Nat) (k : Nat) : zL (l.drop k) = (zL l).drop k := by unfold zL; rw [List.map_drop]
theorem ints_append2 (a b : List Int) : ints (a ++ b) = ints a ++ ints b := by unfold ints; rw [List.map_append]
theorem cell_one_new (w1 : World) (x : Value) (e : TypeId) : ∀ j u, ([x] : List Value)[j]? = some u → (w1.alloc (.cells #[x] e)).cell? ((⟨w1.heap.size, 0, none⟩ : Addr).add j) = some u := by
 intro j u hj
 match j, hj with
 | 0, hj => simp at hj; subst hj; simp [Addr.add]
 | j + 1, hj => simp at hj
theorem one_intV (p : Int) : ∀ u ∈ ([.int .i64 p] : List Value), u.oneCell' = true := by intro u hu; simp at hu; subst hu; rfl
theorem dgK_cmp {down : Bool} {K : Nat → Nat} {s x y : Nat} : dgK down K s x ≤ dgK down K s y ↔ (if down then digN (K y) s ≤ digN (K x) s else digN (K x) s ≤ digN (K y) s) := by
 unfold dgK; exact dgD_le (digN_lt _ _) (digN_lt _ _)
end Go.Proofs.YtbdhibcbpgjbmaaGreatDoor
