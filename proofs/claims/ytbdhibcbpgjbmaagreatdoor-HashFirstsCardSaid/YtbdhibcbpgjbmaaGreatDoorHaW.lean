/- Layer 19, walked: a table's parts: made, first, next, holds, makeRoom. -/
import Derived.Test.YtbdhibcbpgjbmaaGreatDoorHaR
import Derived.Test.YtbdhibcbpgjbmaaGreatDoorHaT
import Derived.Test.YtbdhibcbpgjbmaaGreatDoorHaKb
import Derived.Test.YtbdhibcbpgjbmaaGreatDoorVaV
namespace Go.Proofs.YtbdhibcbpgjbmaaGreatDoor
set_option maxRecDepth 100000
open Go.RowKit Fl
set_option linter.unusedVariables false

/-- A table in memory: its block, its slots' block. -/
def TabM (w : World) (b0 tb sb : Nat) (u : Value) (S : List (Nat × Int)) (h : Nat) : Prop :=
 b0 ≤ tb ∧ b0 ≤ sb ∧ tb ≠ sb ∧ At3 w tb u (.slice (some ⟨sb, 0, none⟩) S.length S.length) (.int .i64 (h : Int)) ∧ RowH w sb S
theorem TabM.below {w w' : World} {b0 tb sb : Nat} {u : Value} {S : List (Nat × Int)} {h : Nat} (t : TabM w b0 tb sb u S h) (hb : Below w.heap.size w w') : TabM w' b0 tb sb u S h :=
 ⟨t.1, t.2.1, t.2.2.1, t.2.2.2.1.below hb, t.2.2.2.2.below hb⟩

theorem hmade_calls {b0 tb sb : Nat} {u : Value} {S : List (Nat × Int)} {h : Nat} (w : World) (t : TabM w b0 tb sb u S h) (hp : 0 < S.length) : Calls Tryz.prog 67 #[.pointer (some ⟨tb, 0, none⟩)] w (BoolIs true w) := by
 have hc := t.2.2.2.1.2.2.1
 have hp2 : (0 : Int) < (S.length : Int) := by omega
 go_enter Tryz.func67, Tryz.ntmps67
 go_wp2_with fail
 go_ret
 exact BoolIs.mk rfl (Below.refl _ _)
theorem hfirst_calls {b0 tb sb : Nat} {u : Value} {S : List (Nat × Int)} {h : Nat} (k : Nat) (w : World) (t : TabM w b0 tb sb u S h) (hp : 0 < S.length) (hm : S.length ≤ 4000000) (hk : k < 18446744073709551616) :
  Calls Tryz.prog 98 #[.pointer (some ⟨tb, 0, none⟩), .int .u64 (k : Int)] w fun e w' => e = .returned (.int .i64 ((k % S.length : Nat) : Int)) ∧ w = w' := by
 have hc := t.2.2.2.1.2.2.1
 obtain ⟨m, hmm⟩ : ∃ m, S.length = m := ⟨_, rfl⟩
 rw [hmm] at hc hp hm ⊢
 have hz : ((m : Int) == 0) = false := by simp; omega
 have h1 : IntKind.u64.wrap (m : Int) = (m : Int) := by rw [IntKind.wrap_u64]; omega
 have hlt := Nat.mod_lt k hp
 have h2 : IntKind.u64.wrap ((k : Int).tmod (m : Int)) = ((k % m : Nat) : Int) := by
  rw [show (k : Int).tmod (m : Int) = ((k % m : Nat) : Int) from rfl, IntKind.wrap_u64]; omega
 go_enter Tryz.func98, Tryz.ntmps98
 go_wp2_with fail
 go_ret
 exact ⟨rfl, rfl⟩
theorem hnext_calls {b0 tb sb : Nat} {u : Value} {S : List (Nat × Int)} {h : Nat} (s : Nat) (w : World) (t : TabM w b0 tb sb u S h) (hp : 0 < S.length) (hm : S.length ≤ 4000000) (hs : s < S.length) :
  Calls Tryz.prog 100 #[.pointer (some ⟨tb, 0, none⟩), .int .i64 (s : Int)] w fun e w' => e = .returned (.int .i64 (((s + 1) % S.length : Nat) : Int)) ∧ w = w' := by
 have hc := t.2.2.2.1.2.2.1
 obtain ⟨m, hmm⟩ : ∃ m, S.length = m := ⟨_, rfl⟩
 rw [hmm] at hc hp hm hs ⊢
 have hz : ((m : Int) == 0) = false := by simp; omega
 go_enter Tryz.func100, Tryz.ntmps100
 go_wp2_with fail
 go_ret
 exact ⟨rfl, rfl⟩
set_option maxHeartbeats 4000000 in
theorem hroom_calls {b0 tb sb : Nat} {u : Value} {S : List (Nat × Int)} {h : Nat} (w : World) (t : TabM w b0 tb sb u S h) (hm : S.length ≤ 4000000) (hh : 2 * h ≤ S.length) :
  Calls Tryz.prog 69 #[.pointer (some ⟨tb, 0, none⟩)] w fun e w' => e = .returned (.tuple #[]) ∧ Below w.heap.size w w' := by
 have hc := t.2.2.2.1.2.2.1
 have hd := t.2.2.2.1.2.2.2.1
 obtain ⟨m, hmm⟩ : ∃ m, S.length = m := ⟨_, rfl⟩
 rw [hmm] at hc hm hh
 have h1 : IntKind.i64.wrap (2 * (h : Int)) = ((2 * h : Nat) : Int) := by rw [IntWalk.i64_in _ (by omega)]; omega
 have h2 : (((2 * h : Nat) : Int) ≤ (m : Int)) := by omega
 go_enter Tryz.func69, Tryz.ntmps69
 go_wp2_with fail
 go_quiet (fail)
 go_wp2_with fail
 refine bodyPost_ret (v := .tuple #[]) (by simp [results, Tryz.results69, go_sem]) rfl ?_
 exact ⟨rfl, Below.drewN' (Below.refl _ _) _⟩
theorem alike39 {ok ok2 : Nat → Prop} (u u2 : Value) (V V2 : VV) (i k : Nat) (w : World) (hok : V.ok) (hok2 : V2.ok) (hnm : V.nm) (hnm2 : V2.nm) (hbx : ∀ a ∈ V.boxs, gA 39 a) (hbx2 : ∀ a ∈ V2.boxs, gA 39 a)
  (hk : i < V.len) (hk2 : k < V2.len) (hv : IsV w ok u V) (hv2 : IsV w ok2 u2 V2) : Calls Tryz.prog 122 #[.agg #[u], .int .i64 (i : Int), .agg #[u2], .int .i64 (k : Int)] w (BoolIs (iq (itA (plA 39) V i) (itA (plA 39) V2 k)) w) :=
 alike_calls 39 (vsame_calls 39) u u2 V V2 i k w hok hok2 hnm hnm2 hbx hbx2 hk hk2 hv hv2
set_option maxHeartbeats 4000000 in
theorem hholds_yes {ok ok2 : Nat → Prop} {b0 tb sb : Nat} {u u2 : Value} {V V2 : VV} {S : List (Nat × Int)} {h : Nat} (key p k : Nat) (w : World) (t : TabM w b0 tb sb u S h)
  (hk1 : V.ok ∧ V.nm ∧ (∀ a ∈ V.boxs, gA 39 a) ∧ p < V.len) (hk2 : V2.ok ∧ V2.nm ∧ (∀ a ∈ V2.boxs, gA 39 a) ∧ k < V2.len) (hv : IsV w ok u V) (hv2 : IsV w ok2 u2 V2) :
  Calls Tryz.prog 99 #[.pointer (some ⟨tb, 0, none⟩), .agg #[.int .u64 (key : Int), .int .i64 (p : Int)], .int .u64 (key : Int), .agg #[u2], .int .i64 (k : Int)] w (BoolIs (iq (itA (plA 39) V p) (itA (plA 39) V2 k)) w) := by
 have hsx := hv.store; have hsx2 := hv2.store
 obtain ⟨W1, hW1⟩ : ∃ W1, (w.alloc (.cells #[.int .u64 (key : Int), .int .i64 (p : Int)] 110)).alloc (.cells #[u2] 36) = W1 := ⟨_, rfl⟩
 have HS := Lib.hid (show At2 W1 w.heap.size (.int .u64 (key : Int)) (.int .i64 (p : Int)) by rw [← hW1]; exact (At2.new _ _ _ _).below (below_new _ _))
 have HA2 := Lib.hid (show At1 W1 (w.heap.size + 1) u2 by rw [← hW1]; have := At1.new (w.alloc (.cells #[.int .u64 (key : Int), .int .i64 (p : Int)] 110)) u2 36; simpa using this)
 have HB := Lib.hid (show Below w.heap.size w W1 by rw [← hW1]; exact (below_new _ _).alloc (by simp) _)
 have HV := Lib.hid (hv.grow HB.out)
 have HV2 := Lib.hid (hv2.grow HB.out)
 have HT := Lib.hid (t.2.2.2.1.below HB.out)
 have HK := Lib.hid (And.intro hk1 hk2)
 clear hk1 hk2 hv hv2 t
 go_enter Tryz.func99, Tryz.ntmps99
 go_wp2_with fail
 clear hW1
 obtain ⟨W11, hWD, hB⟩ := drwn W1
 replace HS := HS.go hB; replace HA2 := HA2.go hB; replace HT := HT.go hB; replace HB := cb hB HB; replace HV := HV.go hB; replace HV2 := HV2.go hB; clear hB
 refine rgn (S := fun w' => w'.cell? ⟨w.heap.size, 0, none⟩ = some (.int .u64 (key : Int)) ∧ w'.cell? ⟨w.heap.size, 1, none⟩ = some (.int .i64 (p : Int)) ∧ w'.cell? ⟨w.heap.size + 1, 0, none⟩ = some (u2) ∧ w'.cell? ⟨tb, 0, none⟩ = some (u) ∧ w'.cell? ⟨tb, 1, none⟩ = some (.slice (some ⟨sb, 0, none⟩) S.length S.length) ∧ w'.cell? ⟨tb, 2, none⟩ = some (.int .i64 (h : Int))) hWD ⟨HS.out.2.1, HS.out.2.2.1, HA2.out.2.1, HT.out.2.1, HT.out.2.2.1, HT.out.2.2.2.1⟩ (fun hHeld => ?_)
 clear hWD; apply tk 0; apply tk 1; apply tk 2; apply tk 3; apply tk 4; apply tk 5; apply tk 6; apply tk 7; apply tk 8; apply tk 9; apply tk 10; apply tk 11; apply tk 12
 apply rdy 13; intro K hK; clear hHeld; go_simp
 refine (alike39 u u2 V V2 p k _ HK.out.1.1 HK.out.2.1 HK.out.1.2.1 HK.out.2.2.1 HK.out.1.2.2.1 HK.out.2.2.2.1 HK.out.1.2.2.2 HK.out.2.2.2.2 HV.out HV2.out).mono ?_
 rintro e W12 ⟨rfl, hB⟩
 replace HS := HS.go hB; replace HA2 := HA2.go hB; replace HT := HT.go hB; replace HB := cb hB HB; replace HV := HV.go hB; replace HV2 := HV2.go hB; clear hB
 try go_simp
 refine hK.out _ _ ⟨HS.out.2.1, HS.out.2.2.1, HA2.out.2.1, HT.out.2.1, HT.out.2.2.1, HT.out.2.2.2.1⟩ (fun hHeld => ?_)
 clear hK K; apply tk 14; apply tk 15
 refine wpAnyH_done (by kernel_rfl) ?_ _
 clear hHeld
 go_wp2_with fail
 go_ret
 exact BoolIs.mk rfl HB.out
set_option maxHeartbeats 4000000 in
theorem hholds_no {ok2 : Nat → Prop} {V2 : VV} {b0 tb sb : Nat} {u u2 : Value} {S : List (Nat × Int)} {h : Nat} (key key2 k : Nat) (p : Int) (w : World) (t : TabM w b0 tb sb u S h) (hne : key2 ≠ key) (hv2 : IsV w ok2 u2 V2) :
  Calls Tryz.prog 99 #[.pointer (some ⟨tb, 0, none⟩), .agg #[.int .u64 (key2 : Int), .int .i64 (p : Int)], .int .u64 (key : Int), .agg #[u2], .int .i64 (k : Int)] w (BoolIs false w) := by
 have hsx2 := hv2.store
 obtain ⟨W1, hW1⟩ : ∃ W1, (w.alloc (.cells #[.int .u64 (key2 : Int), .int .i64 (p : Int)] 110)).alloc (.cells #[u2] 36) = W1 := ⟨_, rfl⟩
 have HS := Lib.hid (show At2 W1 w.heap.size (.int .u64 (key2 : Int)) (.int .i64 (p : Int)) by rw [← hW1]; exact (At2.new _ _ _ _).below (below_new _ _))
 have HA2 := Lib.hid (show At1 W1 (w.heap.size + 1) u2 by rw [← hW1]; have := At1.new (w.alloc (.cells #[.int .u64 (key2 : Int), .int .i64 (p : Int)] 110)) u2 36; simpa using this)
 have HB := Lib.hid (show Below w.heap.size w W1 by rw [← hW1]; exact (below_new _ _).alloc (by simp) _)
 have HT := Lib.hid (t.2.2.2.1.below HB.out)
 have hkk : ((key2 : Int) == (key : Int)) = false := by simp; omega
 clear hne t hv2
 go_enter Tryz.func99, Tryz.ntmps99
 go_wp2_with fail
 clear hW1
 obtain ⟨W11, hWD, hB⟩ := drwn W1
 replace HS := HS.go hB; replace HA2 := HA2.go hB; replace HT := HT.go hB; replace HB := cb hB HB; clear hB
 refine rgn (S := fun w' => w'.cell? ⟨w.heap.size, 0, none⟩ = some (.int .u64 (key2 : Int)) ∧ w'.cell? ⟨w.heap.size, 1, none⟩ = some (.int .i64 (p : Int)) ∧ w'.cell? ⟨w.heap.size + 1, 0, none⟩ = some (u2) ∧ w'.cell? ⟨tb, 0, none⟩ = some (u) ∧ w'.cell? ⟨tb, 1, none⟩ = some (.slice (some ⟨sb, 0, none⟩) S.length S.length) ∧ w'.cell? ⟨tb, 2, none⟩ = some (.int .i64 (h : Int))) hWD ⟨HS.out.2.1, HS.out.2.2.1, HA2.out.2.1, HT.out.2.1, HT.out.2.2.1, HT.out.2.2.2.1⟩ (fun hHeld => ?_)
 clear hWD; apply tk 0; apply tk 1; apply tk 2; apply tk 3; apply tk 4
 refine wpAnyH_take (i := 5) (v := undef) rfl (by kernel_rfl) (by kernel_rfl) (by kernel_rfl) (fun _ _ _ h => h) (Or.inr ⟨by rfl, rfl⟩) (by assumption) ?_
 simp only [Act.put, List.getElem_toArray, List.getElem_cons_succ, List.getElem_cons_zero, List.setIfInBounds_toArray, List.set_cons_zero, List.set_cons_succ]
 refine wpAnyH_take (i := 6) (v := undef) rfl (by kernel_rfl) (by kernel_rfl) (by kernel_rfl) (fun _ _ _ h => h) (Or.inr ⟨by rfl, rfl⟩) (by assumption) ?_
 simp only [Act.put, List.getElem_toArray, List.getElem_cons_succ, List.getElem_cons_zero, List.setIfInBounds_toArray, List.set_cons_zero, List.set_cons_succ]
 refine wpAnyH_take (i := 7) (v := undef) rfl (by kernel_rfl) (by kernel_rfl) (by kernel_rfl) (fun _ _ _ h => h) (Or.inr ⟨by rfl, rfl⟩) (by assumption) ?_
 simp only [Act.put, List.getElem_toArray, List.getElem_cons_succ, List.getElem_cons_zero, List.setIfInBounds_toArray, List.set_cons_zero, List.set_cons_succ]
 refine wpAnyH_take (i := 8) (v := undef) rfl (by kernel_rfl) (by kernel_rfl) (by kernel_rfl) (fun _ _ _ h => h) (Or.inr ⟨by rfl, rfl⟩) (by assumption) ?_
 simp only [Act.put, List.getElem_toArray, List.getElem_cons_succ, List.getElem_cons_zero, List.setIfInBounds_toArray, List.set_cons_zero, List.set_cons_succ]
 refine wpAnyH_take (i := 9) (v := undef) rfl (by kernel_rfl) (by kernel_rfl) (by kernel_rfl) (fun _ _ _ h => h) (Or.inr ⟨by rfl, rfl⟩) (by assumption) ?_
 simp only [Act.put, List.getElem_toArray, List.getElem_cons_succ, List.getElem_cons_zero, List.setIfInBounds_toArray, List.set_cons_zero, List.set_cons_succ]
 refine wpAnyH_take (i := 10) (v := undef) rfl (by kernel_rfl) (by kernel_rfl) (by kernel_rfl) (fun _ _ _ h => h) (Or.inr ⟨by rfl, rfl⟩) (by assumption) ?_
 simp only [Act.put, List.getElem_toArray, List.getElem_cons_succ, List.getElem_cons_zero, List.setIfInBounds_toArray, List.set_cons_zero, List.set_cons_succ]
 refine wpAnyH_take (i := 11) (v := undef) rfl (by kernel_rfl) (by kernel_rfl) (by kernel_rfl) (fun _ _ _ h => h) (Or.inr ⟨by rfl, rfl⟩) (by assumption) ?_
 simp only [Act.put, List.getElem_toArray, List.getElem_cons_succ, List.getElem_cons_zero, List.setIfInBounds_toArray, List.set_cons_zero, List.set_cons_succ]
 refine wpAnyH_take (i := 12) (v := undef) rfl (by kernel_rfl) (by kernel_rfl) (by kernel_rfl) (fun _ _ _ h => h) (Or.inr ⟨by rfl, rfl⟩) (by assumption) ?_
 simp only [Act.put, List.getElem_toArray, List.getElem_cons_succ, List.getElem_cons_zero, List.setIfInBounds_toArray, List.set_cons_zero, List.set_cons_succ]
 refine wpAnyH_take (i := 13) (v := undef) rfl (by kernel_rfl) (by kernel_rfl) (by kernel_rfl) (fun _ _ _ h => h) (Or.inr ⟨by rfl, rfl⟩) (by assumption) ?_
 simp only [Act.put, List.getElem_toArray, List.getElem_cons_succ, List.getElem_cons_zero, List.setIfInBounds_toArray, List.set_cons_zero, List.set_cons_succ]
 apply tk 14; apply tk 15
 refine wpAnyH_done (by kernel_rfl) ?_ _
 clear hHeld
 go_wp2_with fail
 go_ret
 exact BoolIs.mk rfl HB.out
end Go.Proofs.YtbdhibcbpgjbmaaGreatDoor
