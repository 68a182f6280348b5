/- Layer 8's law, its parts: List, good, shows. -/
import Derived.Test.YtbdhibcbpgjbmaaGreatDoorFlN
namespace Go.Proofs.YtbdhibcbpgjbmaaGreatDoor
set_option maxRecDepth 100000
open Go.RowKit Fl
set_option linter.unusedVariables false

set_option maxHeartbeats 4000000 in
theorem rlist_calls {ok : Nat → Prop} (lv : Value) (l : List PI) (c : Int) (w : World) (hl : Its w ok lv l) :
  Calls Tryz.prog 39 #[lv, .int .i64 c] w fun e w' => ∃ u, e = .returned u ∧ IsP w' (fun b => (ok b ∧ b < w.heap.size) ∨ w.heap.size ≤ b) u (.mk [(l.length : Int)] l c) ∧ Below w.heap.size w w' := by
 have HL := Lib.hid hl.lt
 obtain ⟨ao, cap, rfl, _, _⟩ := hl.len
 clear hl
 go_enter Tryz.func39, Tryz.ntmps39
 go_wp2_with fail
 refine bodyPost_ret (v := .agg #[.slice (some ⟨w.heap.size + 1, 0, none⟩) 1 1, .slice ao l.length cap, .int .i64 c]) (by simp [results, Tryz.results39, go_sem]) rfl ⟨_, rfl, ?_, (below_new _ _).alloc (by simp) _⟩
 have h1 := Slc.owned (World.ownsRow_lit (base := w.heap.size) (e := 3) (size := 1) (w.alloc (.cells #[.slice (some ⟨w.heap.size + 1, 0, none⟩) 1 1, .slice ao l.length cap, .int .i64 c] 25)) #[.int .i64 (l.length : Int)] 1 (by simp) (by unfold maxLen; omega) rfl)
 simp only [World.size_alloc] at h1
 exact IsP.of (s := [(l.length : Int)]) (h1.keep (Kept.refl _ _) (fun b _ h => Or.inr h)) ((HL.out.grow ((below_new w _).alloc (by simp) _)).wide (fun b _ h => Or.inl h))

def GoodIs (p : PA) (w : World) (e : Ending) (w' : World) : Prop := ∃ g : Bool, e = .returned (.bool g) ∧ (g = true → chk 40 p = 0) ∧ Below w.heap.size w w'

end Go.Proofs.YtbdhibcbpgjbmaaGreatDoor
