/- Layer 18, walked: Sort; what Cells hands to sorted. Written by tools/gen_mgt.py. -/
import Derived.Test.YtbdbpamefkgelaaGreatDoorMgS
import Derived.Test.YtbdbpamefkgelaaGreatDoorMgB
import Derived.Test.YtbdbpamefkgelaaGreatDoorOrB
import Derived.Defers
import Derived.Recover
namespace Go.Proofs.YtbdbpamefkgelaaGreatDoor
set_option maxRecDepth 100000
open Go.RowKit Fl
set_option linter.unusedVariables false

theorem stO_tot {n : Nat} {lt : Nat → Nat → Bool} (h : TotO n lt) {i k : Nat} (hi : i < n) (hk : k < n) : stO lt i k = lt i k := by
  unfold stO
  by_cases e : i = k
  · subst e; rw [h.irr i hi]; simp
  · have := h.tot i k hi hk e
    cases h1 : lt i k
    · rw [h1] at this; cases h2 : lt k i
      · rw [h2] at this; cases this
      · rfl
    · rfl
theorem weak_tot {n : Nat} {lt : Nat → Nat → Bool} (h : TotO n lt) : Weak n lt := by
  refine ⟨h.irr, h.tra, fun i j k hi hj hk a b => ?_⟩
  by_cases e1 : i = j
  · subst e1; exact b
  · by_cases e2 : j = k
    · subst e2; exact a
    · have h1 := h.tot i j hi hj e1
      have h2 := h.tot j k hj hk e2
      rw [a] at h1
      rw [b] at h2
      have h3 : lt k j = true := by
        cases h4 : lt k j
        · rw [h4] at h2; cases h2
        · rfl
      have h5 : lt j i = true := by
        cases h4 : lt j i
        · rw [h4] at h1; cases h1
        · rfl
      have h6 := h.tra k j i hk hj hi h3 h5
      by_cases e3 : i = k
      · subst e3; exact h.irr i hi
      · have := h.tot i k hi hk e3
        rw [h6] at this; exact this
theorem so_same {n : Nat} {lt lt' : Nat → Nat → Bool} (h : ∀ i k, i < n → k < n → lt i k = lt' i k) {a : List Nat} (ha : IsSo n lt a) : IsSo n lt' a := by
  refine ⟨ha.1, ha.2.1, ha.2.2.1, fun r hr => ?_⟩
  have key : ∀ i, i < n → a.getD i 0 < n := fun i hi => by
    rw [List.getD_eq_getElem?_getD, List.getElem?_eq_getElem (by rw [ha.1]; exact hi)]
    exact ha.2.1 _ (List.getElem_mem _)
  rw [← h _ _ (key r (by omega)) (key (r + 1) hr)]
  exact ha.2.2.2 r hr

theorem mgrec_idle (w : World) : CallsD Tryz.prog 31 #[] .returning w fun e u' w' => e = .returned (.tuple #[]) ∧ u' = .returning ∧ w' = w := by
  refine callsD_of_wpS Tryz.func31 rfl fun c₀ cs hu => ?_
  apply wpS_region
  cases c₀
  simp_all [wpOpsS, go_sem, recoverD, Tryz.ntmps31, bodyPostS, results, Tryz.results31]

set_option maxHeartbeats 8000000 in
theorem mgsort_calls (K : FuncId) (cap : Array Value) {n : Nat} {ahead : Nat → Nat → Bool} (w : World) (hK : ∀ (args : Array Value) (wx : World), (callFunc K args).run Tryz.prog wx = .ok (.enter K args) wx)
    (hA : ∀ (i k : Nat) (wx : World), i < n → k < n → Below w.heap.size w wx → Calls Tryz.prog K (#[.int .i64 (i : Int), .int .i64 (k : Int)] ++ cap) wx fun e w' => e = .returned (.bool (ahead i k)) ∧ Below wx.heap.size wx w')
    (hw : Weak n ahead) (hn : n ≤ 1048576) :
    Calls Tryz.prog 8 #[.int .i64 (n : Int), .func (.func K) #[] cap] w fun e w' => ∃ v l, e = .returned v ∧ IsSo n (stO ahead) l ∧ Slc w' (fun b => w.heap.size ≤ b) v n (ints (zL l)) ∧ Below w.heap.size w w' := by
  have HC := Lib.hid (mgsorted_calls K cap w hK hA hw hn)
  have hmx : max (n : Int) 0 = (n : Int) := by omega
  have hmn : min (n : Int) 1048576 = (n : Int) := by omega
  have hn0 : (n : Int) ≤ 1048576 := by omega
  clear hK hA hw
  go_enter_defers Tryz.func8, Tryz.ntmps8
  go_wp2_with fail
  refine HC.out.mono ?_
  rintro e W1 ⟨v, l, rfl, hso, hv, hB⟩
  go_wp2
  refine leaves_cons (f := 31) (args := #[]) (by simp) (by simp [go_sem]) ?_
  refine (mgrec_idle _).mono ?_
  rintro e u' w'' ⟨rfl, rfl, rfl⟩
  exact ⟨_, results_tmp rfl _ _ _, v, l, rfl, hso, hv, hB⟩
/-- What MergeSorts hands in. -/
theorem mgsort_keys {ok : Nat → Prop} (v : Value) (b : Nat) (keys : List Nat) (n : Nat) (w : World) (hb : At1 w b v) (hv : Slc w ok v n (u8m keys)) (hn : keys.length = n) (hm : n ≤ 300) :
    Calls Tryz.prog 8 #[.int .i64 (n : Int), .func (.func 9) #[] #[.pointer (some ⟨b, 0, none⟩)]] w fun e w' => ∃ v, e = .returned v ∧ Slc w' (fun x => w.heap.size ≤ x) v n (ints (zL (grN n (lesK (keyE keys) 1 false) n))) ∧ Below w.heap.size w w' := by
  refine (mgsort_calls 9 #[.pointer (some ⟨b, 0, none⟩)] (n := n) (ahead := fun i k => decide (keyE keys i < keyE keys k)) w (fun args wx => by simp [go_sem]) (fun i k wx hi hk hB => ?_) (weak_keys n _) (by omega)).mono ?_
  · have hx : keys[i]? = some (keys[i]'(by omega)) := List.getElem?_eq_getElem _
    have hy : keys[k]? = some (keys[k]'(by omega)) := List.getElem?_eq_getElem _
    have h9 := mgs1_calls v b keys n i k _ _ wx (hb.below hB) (hv.below hB) hn hm hx hy
    have e9 : decide (keys[i]'(by omega) < keys[k]'(by omega)) = decide (keyE keys i < keyE keys k) := by
      rw [decide_eq_decide, keyE_some hx, keyE_some hy]
      omega
    rw [e9] at h9
    exact h9
  · rintro e w' ⟨u, l, rfl, hso, hv, hB⟩
    rw [stO_keys] at hso
    rw [(so_iff (lesK_tot _ _ _ _) (grN_gr (lesK_tot _ _ _ _))).1 hso] at hv
    exact ⟨u, rfl, hv, hB⟩
end Go.Proofs.YtbdbpamefkgelaaGreatDoor
