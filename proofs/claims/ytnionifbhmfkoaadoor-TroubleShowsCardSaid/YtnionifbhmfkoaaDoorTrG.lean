/- Slices of strings: small, Texts, the reference's Text. -/
import Derived.Test.YtnionifbhmfkoaaDoorTrA
import Derived.Deep.LoopGhost
import Derived.Deep.QuietTactic
import Derived.BigQuiet
namespace Go.Proofs.YtnionifbhmfkoaaDoor
open Go.RowKit
set_option maxRecDepth 100000

theorem ret_b {a b : Bool} (h : a = b) : Ending.returned (.bool a) = .returned (.bool b) := by rw [h]
theorem bs_eq {a b : ByteArray} (h : a.data.toList = b.data.toList) : a = b := by
  cases a; cases b; simp only [ByteArray.mk.injEq]; exact Array.toList_inj.1 h
theorem bs_beq {a b : ByteArray} (h : a ≠ b) : (a.toList == b.toList) = false := by
  rw [beq_eq_false_iff_ne, ByteArray.toList_eq, ByteArray.toList_eq]; exact fun e => h (bs_eq e)
theorem ret_s {a b : ByteArray} (h : a.data.toList = b.data.toList) : Ending.returned (.string a) = .returned (.string b) := by rw [bs_eq h]
/-- v is a slice of the strings ns. -/
def Strs (w : World) (v : Value) (ns : List ByteArray) : Prop :=
  (∃ cap, ns = [] ∧ ∃ ao, v = .slice ao 0 cap) ∨ ∃ b off cap : Nat, 0 < ns.length ∧ v = .slice (some ⟨b, off, none⟩) ns.length cap ∧ ∀ i (h : i < ns.length), w.cell? ⟨b, off + i, none⟩ = some (.string ns[i])
theorem Strs.keep {w w' : World} {v : Value} {ns : List ByteArray} (hk : ∀ a v, w.cell? a = some v → w'.cell? a = some v) (h : Strs w v ns) : Strs w' v ns := by
  rcases h with h | ⟨b, off, cap, h0, h1, h2⟩
  · exact .inl h
  · exact .inr ⟨b, off, cap, h0, h1, fun i hi => hk _ _ (h2 i hi)⟩

def smallB (ns : List ByteArray) : Bool := (ns.take 61).all (fun s => decide (s.size ≤ 200)) && decide (ns.length ≤ 60)
theorem smallB_false {ns : List ByteArray} {k : Nat} (h : k < ns.length) (hk : k ≤ 60) (hs : 200 < ns[k].size) : smallB ns = false := by
  have : (ns.take 61).all (fun s => decide (s.size ≤ 200)) = false := by
    rw [List.all_eq_false]
    exact ⟨ns[k], List.mem_take_iff_getElem.2 ⟨k, by omega, rfl⟩, by simp; omega⟩
  simp [smallB, this]
theorem smallB_len {ns : List ByteArray} (h : 60 < ns.length) : smallB ns = false := by
  simp [smallB]; omega
theorem smallB_true {ns : List ByteArray} (h : ns.length ≤ 60) (hs : ∀ j (hj : j < ns.length), ns[j].size ≤ 200) : smallB ns = true := by
  have e : ns.take 61 = ns := List.take_of_length_le (by omega)
  simp only [smallB, e, Bool.and_eq_true, List.all_eq_true, decide_eq_true_eq]
  exact ⟨fun x hx => by obtain ⟨j, hj, rfl⟩ := List.getElem_of_mem hx; exact hs j hj, h⟩
theorem smallB_iff {ns : List ByteArray} (h : smallB ns = true) : ns.length ≤ 60 ∧ ∀ x ∈ ns, x.size ≤ 200 := by
  simp only [smallB, Bool.and_eq_true, List.all_eq_true, decide_eq_true_eq] at h
  have e : ns.take 61 = ns := List.take_of_length_le (by omega)
  rw [e] at h
  exact ⟨h.2, h.1⟩

set_option maxHeartbeats 1000000 in
theorem small_calls (v : Value) (ns : List ByteArray) (w : World) (hv : Strs w v ns) (hm : ns.length ≤ maxLen) (hs : ∀ x ∈ ns, x.size ≤ maxLen) :
    Calls Tryd.prog 7 #[v] w fun e w' => e = .returned (.bool (smallB ns)) ∧ w = w' := by
  unfold maxLen at hm hs
  rcases hv with ⟨cap, rfl, ao, rfl⟩ | ⟨b, off, cap, h0, rfl, hc⟩
  · go_enter Tryd.func7, Tryd.ntmps7
    go_wp2
    refine wp_loop_rounds 1 ?_
    rw [rounds_succ]
    go_wp2
    go_ret
    exact ⟨rfl, rfl⟩
  · have HC := Lib.hid hc; clear hc
    have HS := Lib.hid hs; clear hs
    go_enter Tryd.func7, Tryd.ntmps7
    go_wp2
    go_loop [3] (fun i => ∃ k : Nat, k ≤ ns.length ∧ k ≤ 61 ∧ i = .int .i64 k ∧ ∀ j (hj : j < ns.length), j < k → ns[j].size ≤ 200) (fun i => ns.length - (intOf i).toNat)
    case atStart => exact ⟨0, by omega, by omega, rfl, fun j _ h => absurd h (by omega)⟩
    case round =>
      obtain ⟨k, hk, hk61, rfl, hall⟩ := hrel
      have HA := Lib.hid hall; clear hall
      by_cases hlt : k < ns.length
      · by_cases h60 : k ≤ 60
        · have hcell := HC.out k hlt
          have hsz := HS.out _ (List.getElem_mem hlt)
          by_cases hbig : 200 < ns[k].size
          · go_wp2
            go_ret
            exact ⟨ret_b (smallB_false hlt h60 hbig).symm, rfl⟩
          · go_wp2
            go_round
            case rel => exact ⟨k + 1, by omega, by omega, by go_num, fun j hj hjk => by
              rcases Nat.lt_or_ge j k with h | h
              · exact HA.out j hj h
              · have : j = k := by omega
                subst this; omega⟩
            case measure => simp [intOf]; omega
        · go_wp2
          go_ret
          exact ⟨ret_b (by rw [smallB_len (by omega)]; simp; omega), rfl⟩
      · go_wp2
        go_ret
        refine ⟨ret_b ?_, rfl⟩
        by_cases h60 : ns.length ≤ 60
        · rw [smallB_true h60 (fun j hj => HA.out j hj (by omega))]; simp; omega
        · rw [smallB_len (by omega)]; simp; omega



set_option maxHeartbeats 1000000 in
theorem texts_calls (v1 v2 : Value) (xs ys : List ByteArray) (w : World) (h1 : Strs w v1 xs) (h2 : Strs w v2 ys) (hm1 : xs.length ≤ maxLen) (hm2 : ys.length ≤ maxLen) :
    Calls Tryd.prog 15 #[v1, v2] w fun e w' => e = .returned (.bool (decide (xs = ys))) ∧ ∃ n, w' = w.drewN n := by
  unfold maxLen at hm1 hm2
  by_cases hl : xs.length = ys.length
  · have HL := Lib.hid hl
    have hll1 : ((xs.length : Int) == (xs.length : Int)) = true := by simp
    rcases h1 with ⟨cap1, rfl, ao1, rfl⟩ | ⟨b1, off1, cap1, h01, rfl, hc1⟩
    · have hz : ys = [] := List.length_eq_zero_iff.1 hl.symm
      subst hz
      rcases h2 with ⟨cap2, _, ao2, rfl⟩ | ⟨b2, off2, cap2, h02, rfl, hc2⟩
      · clear hl HL
        go_enter Tryd.func15, Tryd.ntmps15
        go_wp2
        refine wp_loop_rounds 1 ?_
        rw [rounds_succ]
        go_wp2
        go_ret
        exact ⟨rfl, 0, rfl⟩
      · exact absurd h02 (by simp)
    · rcases h2 with ⟨cap2, rfl, ao2, rfl⟩ | ⟨b2, off2, cap2, h02, rfl, hc2⟩
      · exact absurd h01 (by rw [hl]; simp)
      · have C1 := Lib.hid hc1
        have C2 := Lib.hid hc2
        clear hc1 hc2 hll1
        rw [← hl]
        clear hl
        go_enter Tryd.func15, Tryd.ntmps15
        go_wp2
        go_loopw [5] (fun i wr => ∃ k : Nat, k ≤ xs.length ∧ i = .int .i64 k ∧ (∀ j (h1 : j < xs.length) (h2 : j < ys.length), j < k → xs[j] = ys[j]) ∧ ∃ n, wr = w.drewN n) (fun i _ => xs.length - (intOf i).toNat)
        case atStart => exact ⟨0, by omega, rfl, fun j _ _ h => absurd h (by omega), 0, rfl⟩
        case round =>
          obtain ⟨k, hk, rfl, hall, n, rfl⟩ := hrel
          have HA := Lib.hid hall; clear hall
          by_cases hlt : k < xs.length
          · have hlt2 : k < ys.length := by rw [← HL.out]; exact hlt
            have c1 := C1.out k hlt
            have c2 := C2.out k hlt2
            have i1 : (0 : Int) ≤ k := by omega
            have i2 : (k : Int) < xs.length := by omega
            by_cases he : xs[k] = ys[k]
            · have HE := Lib.hid he
              go_wp2
              go_quiet (fail)
              go_wp2
              go_roundw
              case rel => exact ⟨k + 1, by omega, by go_num, fun j hj1 hj2 hjk => by
                rcases Nat.lt_or_ge j k with h | h
                · exact HA.out j hj1 hj2 h
                · have : j = k := by omega
                  subst this; exact HE.out, _, rfl⟩
              case measure => simp [intOf]; omega
            · have hb := bs_beq he
              go_wp2
              go_quiet (fail)
              go_wp2
              go_ret
              exact ⟨ret_b (by symm; rw [decide_eq_false_iff_not]; intro h; subst h; exact he rfl), n + nq, World.drewN_drewN _ _ _⟩
          · go_wp2
            go_ret
            exact ⟨ret_b (by symm; rw [decide_eq_true_eq]; exact List.ext_getElem HL.out (fun j a b => HA.out j a b (by omega))), _, rfl⟩
  · have hb : ((xs.length : Int) == (ys.length : Int)) = false := by simp; omega
    have hd : decide (xs = ys) = false := by rw [decide_eq_false_iff_not]; intro h; exact hl (by rw [h])
    have HD := Lib.hid hd
    clear hd
    obtain ⟨ao1, cap1, e1⟩ : ∃ ao cap, v1 = .slice ao xs.length cap := by
      rcases h1 with ⟨cap1, rfl, ao1, rfl⟩ | ⟨b1, off1, cap1, h01, rfl, hc1⟩
      · exact ⟨_, _, rfl⟩
      · exact ⟨_, _, rfl⟩
    obtain ⟨ao2, cap2, e2⟩ : ∃ ao cap, v2 = .slice ao ys.length cap := by
      rcases h2 with ⟨cap1, rfl, ao1, rfl⟩ | ⟨b1, off1, cap1, h01, rfl, hc1⟩
      · exact ⟨_, _, rfl⟩
      · exact ⟨_, _, rfl⟩
    subst e1; subst e2
    clear hl h1 h2
    go_enter Tryd.func15, Tryd.ntmps15
    go_wp2
    go_ret
    exact ⟨by rw [HD.out]; rfl, 0, rfl⟩

/-- The functions' names, each with a colon and a space. -/
def pre (ns : List ByteArray) : List UInt8 := ns.flatMap fun n => n.data.toList ++ [58, 32]
theorem pre_snoc (ns : List ByteArray) (n : ByteArray) : pre (ns ++ [n]) = pre ns ++ (n.data.toList ++ [58, 32]) := by simp [pre]
theorem pre_take (ns : List ByteArray) (k : Nat) (h : k < ns.length) : pre (ns.take (k + 1)) = pre (ns.take k) ++ (ns[k].data.toList ++ [58, 32]) := by
  rw [← pre_snoc]; congr 1; rw [List.take_succ_eq_append_getElem h]
theorem wordB_len (c : Int) : (wordB c).size ≤ 12 := by
  show (wordL c).toArray.size ≤ 12
  simp only [wordL, Bool.cond_eq_ite]
  repeat' split
  all_goals simp
/-- What a trouble's text is. -/
def textL (c : Int) (ns : List ByteArray) : List UInt8 := pre ns ++ wordL c
def textB (c : Int) (ns : List ByteArray) : ByteArray := ⟨(textL c ns).toArray⟩
theorem pre_len (ns : List ByteArray) (h : ∀ x ∈ ns, x.size ≤ 200) : (pre ns).length ≤ 202 * ns.length := by
  induction ns with
  | nil => simp [pre]
  | cons a l ih =>
    have h1 := ih (fun x hx => h x (List.mem_cons_of_mem _ hx))
    have h2 := h a List.mem_cons_self
    have e : pre (a :: l) = (a.data.toList ++ [58, 32]) ++ pre l := by simp [pre]
    have h3 : a.data.toList.length = a.size := rfl
    rw [e]; simp only [List.length_append, List.length_cons, List.length_nil]; omega

set_option maxHeartbeats 1000000 in
theorem rtext_calls (v : Value) (c : Int) (ns : List ByteArray) (w : World) (hv : Strs w v ns) (hsm : smallB ns = true) :
    Calls Tryd.prog 16 #[.int .i64 c, v] w fun e w' => e = .returned (.string (textB c ns)) ∧ Below w.heap.size w w' := by
  obtain ⟨hm, hsz⟩ := smallB_iff hsm
  have hwl := wordB_len c
  have HP := Lib.hid (fun k => pre_len (ns.take k) (fun x hx => hsz x (List.mem_of_mem_take hx)))
  have HS := Lib.hid hsz
  clear hsz hsm
  have hr := fun w => refword_calls c w
  have HR := Lib.hid hr; clear hr
  rcases hv with ⟨cap, rfl, ao, rfl⟩ | ⟨b, off, cap, h0, rfl, hc⟩
  · go_enter Tryd.func16, Tryd.ntmps16
    go_wp2
    refine wp_loop_rounds 1 ?_
    rw [rounds_succ]
    go_wp2_with (go_at_call 18; refine (HR.out _).mono ?_; rintro e w' ⟨rfl, hB⟩; have HB := Lib.hid hB; clear hB)
    go_ret
    exact ⟨ret_s (by simp [textB, textL, pre, wordB, ByteArray.data_append]), HB.out⟩
  · have HC := Lib.hid hc; clear hc
    go_enter Tryd.func16, Tryd.ntmps16
    go_wp2
    go_loop [5, 6] (fun s i => ∃ k : Nat, k ≤ ns.length ∧ i = .int .i64 k ∧ s = .string ⟨(pre (ns.take k)).toArray⟩) (fun _ i => ns.length - (intOf i).toNat)
    case atStart => exact ⟨0, by omega, rfl, rfl⟩
    case round =>
      obtain ⟨k, hk, rfl, rfl⟩ := hrel
      by_cases hlt : k < ns.length
      · have hcell := HC.out k hlt
        have HT := Lib.hid (pre_take ns k hlt)
        have h1 : (pre (ns.take k)).length ≤ 12120 := Nat.le_trans (HP.out k) (by simp only [List.length_take]; omega)
        have h2 : ns[k].size ≤ 200 := HS.out _ (List.getElem_mem hlt)
        go_wp2
        go_round
        case rel => exact ⟨k + 1, by omega, by go_num, congrArg Value.string (bs_eq (by rw [HT.out]; simp [ByteArray.data_append]))⟩
        case measure => simp [intOf]; omega
      · have he : k = ns.length := by omega
        subst he
        have h1 : (pre (ns.take ns.length)).length ≤ 12120 := Nat.le_trans (HP.out ns.length) (by simp only [List.length_take]; omega)
        rw [List.take_length] at h1 ⊢
        go_wp2_with (go_at_call 18; refine (HR.out _).mono ?_; rintro e w' ⟨rfl, hB⟩; have HB := Lib.hid hB; clear hB)
        go_ret
        exact ⟨ret_s (by simp [textB, textL, wordB, ByteArray.data_append]), HB.out⟩
end Go.Proofs.YtnionifbhmfkoaaDoor
