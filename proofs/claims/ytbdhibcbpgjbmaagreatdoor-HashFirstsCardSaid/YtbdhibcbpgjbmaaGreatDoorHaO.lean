/- Layer 19's laws, their parts: good, shows. -/
import Derived.Test.YtbdhibcbpgjbmaaGreatDoorFlO
namespace Go.Proofs.YtbdhibcbpgjbmaaGreatDoor
set_option maxRecDepth 100000
open Go.RowKit Fl
set_option linter.unusedVariables false

def GoodIs19 (p : PA) (w : World) (e : Ending) (w' : World) : Prop := ∃ g : Bool, e = .returned (.bool g) ∧ (g = true → chk 40 p = 0 ∧ p.l.length ≤ 200) ∧ Below w.heap.size w w'
set_option maxHeartbeats 4000000 in
theorem good19_calls (ok : Nat → Prop) (p : PA) (u : Value) (n : Nat) (w : World) (hl : lo n p) (hp : IsP w ok u p) :
  Calls Tryz.prog 6 #[u] w (GoodIs19 p w) := by
 have HP := Lib.hid hp; have HL := Lib.hid hl
 obtain ⟨so, sc, io, ic, rfl, hs, hit⟩ := hp.opened
 obtain ⟨W1, hW1⟩ : ∃ W1, W1 = w.alloc (.cells #[.slice so p.s.length sc, .slice io p.l.length ic, .int .i64 p.f] 25) := ⟨_, rfl⟩
 have HB := Lib.hid (show Below w.heap.size w W1 by rw [hW1]; exact below_new _ _)
 have HA := Lib.hid (show At3 W1 w.heap.size (.slice so p.s.length sc) (.slice io p.l.length ic) (.int .i64 p.f) by rw [hW1]; exact At3.new w _ _ _ _)
 have HI := Lib.hid (show IsP W1 ok _ p from HP.out.grow HB.out)
 have hfold := hW1.symm
 obtain ⟨cc, hcc⟩ : ∃ cc, cc = chk 40 p := ⟨_, rfl⟩
 have HCC := Lib.hid hcc; clear hs hit hp hl hW1 hcc; have cHA0 := HA.out.2.1; have cHA1 := HA.out.2.2.1; have cHA2 := HA.out.2.2.2.1
 go_enter Tryz.func6, Tryz.ntmps6
 go_wp2_with fail
 clear hfold
 refine (pcount_calls n _ p _ _ _ HL.out HI.out).mono ?_
 rintro e W11 ⟨cn, rfl, hB⟩
 clear cHA0 cHA1 cHA2; replace HA := HA.go hB; replace HB := cb hB HB; replace HI := HI.go hB; clear hB; have cHA0 := HA.out.2.1; have cHA1 := HA.out.2.2.1; have cHA2 := HA.out.2.2.2.1
 by_cases hcn : cn ≤ 1500
 ·by_cases hln : p.l.length ≤ 200
  ·have hli : (p.l.length : Int) ≤ 200 := by omega
   have HLN := Lib.hid hln
   go_wp2_with fail
   refine (vCheck_calls _ p _ n _ HL.out HI.out).mono ?_
   rintro e W12 ⟨rfl, hB⟩
   clear cHA0 cHA1 cHA2; replace HA := HA.go hB; replace HB := cb hB HB; replace HI := HI.go hB
   rw [← HCC.out]
   clear hB; have cHA0 := HA.out.2.1; have cHA1 := HA.out.2.2.1; have cHA2 := HA.out.2.2.2.1
   by_cases hc0 : cc = 0
   ·have HC0 := Lib.hid hc0
    have hce : (cc == 0) = true := by simpa using hc0
    clear hc0
    go_wp2_with fail
    go_ret
    exact ⟨true, rfl, (fun h => by exact ⟨HCC.out ▸ HC0.out, HLN.out⟩), HB.out⟩
   ·have HC0 := Lib.hid hc0
    have hce : (cc == 0) = false := by simpa using hc0
    clear hc0
    go_wp2_with fail
    go_ret
    exact ⟨false, rfl, (fun h => by cases h), HB.out⟩
  ·have hli : ¬ ((p.l.length : Int) ≤ 200) := by omega
   go_wp2_with fail
   go_ret
   exact ⟨false, rfl, (fun h => by cases h), HB.out⟩
 ·go_wp2_with fail
  go_ret
  exact ⟨false, rfl, (fun h => by cases h), HB.out⟩

set_option maxHeartbeats 4000000 in
theorem shows19_calls {ok ok2 : Nat → Prop} (u : Value) (V : VV) (lv : Value) (l : List PI) (c : Int) (w : World) (hu : IsV w ok u V) (hV : gV 39 V) (hc : V.cls = c) (hl : Its w ok2 lv l) (he : l = itsA 39 V) (hT : TabAt w) :
  Calls Tryz.prog 19 #[.agg #[u], lv, .int .i64 c] w (BoolIs true w) := by
 obtain ⟨ao, cap, rfl, _, _⟩ := hl.len
 have hsu := hu.store
 obtain ⟨W1, hW1⟩ : ∃ W1, W1 = w.alloc (.cells #[u] 36) := ⟨_, rfl⟩
 have HB := Lib.hid (show Below w.heap.size w W1 by rw [hW1]; exact below_new _ _)
 have HA := Lib.hid (show At1 W1 w.heap.size u by rw [hW1]; exact At1.new w _ _)
 have HU := Lib.hid (show IsV W1 (fun _ => True) u V from (hu.grow HB.out).any)
 have HL := Lib.hid (show Its W1 (fun _ => True) (.slice ao l.length cap) l from (hl.grow HB.out).wide (fun _ _ _ => trivial))
 have HT := Lib.hid (show TabAt W1 from fun j hj => keep_below HB.out _ _ (hT j hj))
 have HV := Lib.hid hV; have HC := Lib.hid hc; have HE := Lib.hid he
 obtain ⟨kd, hkd⟩ : ∃ kd, kd = V.kind := ⟨_, rfl⟩
 have HKD := Lib.hid hkd
 have hkz : 0 < kd := by
  have h1 := gV_kind HV.out
  have h2 : 0 ≤ V.kind := by cases V <;> simp [VV.kind]
  rw [← hkd] at h1 h2; omega
 have HDT := Lib.hid (show decide (V.kind = (V.least : Int)) = true from decide_eq_true hV.2.2.1)
 have HPL := Lib.hid (show plA 40 ([(V.len : Int)], V) = .mk [(l.length : Int)] l c by rw [show (40 : Nat) = 39 + 1 from rfl, plA_list, ← he, hc])
 have HGA := Lib.hid (gV_gA HV.out)
 have HNI := Lib.hid (show nice 40 (.mk [(l.length : Int)] l c) by rw [← HPL.out]; exact nice_plA 40 _ HGA.out)
 have hfold := hW1.symm
 clear hu hl hT hV hc he hW1 hkd; have cHA0 := HA.out.2.1
 go_enter Tryz.func19, Tryz.ntmps19
 go_wp2_with fail
 clear hfold; clear cHA0
 obtain ⟨W11, hWD, hB⟩ := drwn W1
 replace HA := HA.go hB; replace HB := cb hB HB; replace HU := HU.go hB; replace HL := HL.go hB; replace HT := HT.go hB; clear hB
 refine rgn (S := fun w' => w'.cell? ⟨w.heap.size, 0, none⟩ = some (u)) hWD HA.out.2.1 (fun hHeld => ?_)
 clear hWD; apply tk 0
 apply rdy 1; intro K hK; clear hHeld; go_simp
 refine (kind_calls _ V _ HU.out).mono ?_
 rintro e W12 ⟨rfl, hB⟩
 replace HA := HA.go hB; replace HB := cb hB HB; replace HU := HU.go hB; replace HL := HL.go hB; replace HT := HT.go hB
 rw [← HKD.out]
 clear hB
 refine hK.out _ _ HA.out.2.1 (fun hHeld => ?_)
 clear hK K; apply tk 2; apply tk 3; apply tk 4
 apply rdy 5; intro K hK; clear hHeld; go_simp
 refine (tight_calls _ V _ HU.out HV.out.1 HV.out.2.1 HT.out).mono ?_
 rintro e W13 ⟨rfl, hB⟩
 replace HA := HA.go hB; replace HB := cb hB HB; replace HU := HU.go hB; replace HL := HL.go hB; replace HT := HT.go hB; rw [HDT.out]; clear hB
 refine hK.out _ _ HA.out.2.1 (fun hHeld => ?_)
 clear hK K; apply tk 6; apply tk 7; apply tk 8; apply tk 11; apply tk 14; apply tk 15
 apply rdy 9; intro K hK; clear hHeld; go_simp
 refine (vlen_calls _ V _ HU.out).mono ?_
 rintro e W14 ⟨rfl, hB⟩
 replace HA := HA.go hB; replace HB := cb hB HB; replace HU := HU.go hB; replace HL := HL.go hB; replace HT := HT.go hB; clear hB
 refine hK.out _ _ HA.out.2.1 (fun hHeld => ?_)
 clear hK K
 apply rdy 10; intro K hK; clear hHeld; go_simp
 obtain ⟨W15, hWn⟩ : ∃ xw9, W14.alloc (.cells #[.int .i64 (V.len : Int)] 3) = xw9 := ⟨_, rfl⟩
 have hB : Below W14.heap.size W14 W15 := by rw [← hWn]; exact below_new _ _
 have hNB : Slc W15 (fun _ => True) (.slice (some ⟨W14.heap.size, 0, none⟩) 1 1) 1 (ints [(V.len : Int)]) := by
  rw [← hWn]; exact (Slc.owned (World.ownsRow_lit (base := 0) (e := 3) (size := 1) W14 #[.int .i64 (V.len : Int)] 1 (Nat.zero_le _) (by unfold maxLen; omega) rfl)).keep (Kept.refl _ _) (fun _ _ _ => trivial)
 rw [hWn]; clear hWn
 obtain ⟨bl, hnm⟩ : ∃ x, W14.heap.size = x := ⟨_, rfl⟩
 rw [hnm] at hNB ⊢
 replace HA := HA.go hB; replace HB := cb hB HB; replace HU := HU.go hB; replace HL := HL.go hB; replace HT := HT.go hB; have HSL := Lib.hid hNB; clear hNB hB hnm
 refine hK.out _ _ HA.out.2.1 (fun hHeld => ?_)
 clear hK K; apply tk 12
 apply rdy 13; intro K hK; clear hHeld; go_simp
 refine (plain_calls_at 40 (fun _ => True) ([(V.len : Int)], V) _ _ _ (gA_dA HGA.out) ⟨HSL.out, HU.out.wide (fun _ _ _ => trivial)⟩).mono ?_
 rintro e W16 ⟨up, rfl, hup, hB⟩
 replace HA := HA.go hB; replace HB := cb hB HB; replace HU := HU.go hB; replace HL := HL.go hB; replace HT := HT.go hB; replace HSL := HSL.go hB
 rw [HPL.out] at hup
 have HUP := Lib.hid hup
 obtain ⟨uso, usc, uio, uic, rfl, _⟩ := hup.opened
 clear hup; clear hB
 refine hK.out _ _ HA.out.2.1 (fun hHeld => ?_)
 clear hK K
 apply rdy 16; intro K hK; clear hHeld; go_simp
 refine (rlist_calls _ l c _ HL.out).mono ?_
 rintro e W17 ⟨uq, rfl, huq, hB⟩
 replace HA := HA.go hB; replace HB := cb hB HB; replace HU := HU.go hB; replace HL := HL.go hB; replace HT := HT.go hB; replace HSL := HSL.go hB; replace HUP := HUP.go hB; have HUQ := Lib.hid huq
 obtain ⟨qso, qsc, qio, qic, rfl, _⟩ := huq.opened
 clear huq; clear hB
 refine hK.out _ _ HA.out.2.1 (fun hHeld => ?_)
 clear hK K
 apply rdy 17; intro K hK; clear hHeld; go_simp
 refine (psame_calls 40 _ _ (.mk [(l.length : Int)] l c) (.mk [(l.length : Int)] l c) _ _ 40 _ HNI.out HNI.out HUP.out HUQ.out).mono ?_
 rintro e W18 ⟨rfl, hB⟩
 replace HA := HA.go hB; replace HB := cb hB HB; replace HU := HU.go hB; replace HL := HL.go hB; replace HT := HT.go hB; replace HSL := HSL.go hB; replace HUP := HUP.go hB; replace HUQ := HUQ.go hB
 rw [pq_yes rfl]
 clear hB
 refine hK.out _ _ HA.out.2.1 (fun hHeld => ?_)
 clear hK K; apply tk 18; apply tk 19
 refine wpAnyH_done (by kernel_rfl) ?_ _
 clear hHeld; have cHA0 := HA.out.2.1
 go_wp2_with fail
 go_ret
 exact ⟨rfl, HB.out⟩
end Go.Proofs.YtbdhibcbpgjbmaaGreatDoor
