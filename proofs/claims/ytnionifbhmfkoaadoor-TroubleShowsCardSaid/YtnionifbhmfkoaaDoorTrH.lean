/- made and Names over a chain of package trouble. -/
import Derived.Test.YtnionifbhmfkoaaDoorTrE
import Derived.Test.YtnionifbhmfkoaaDoorTrG
namespace Go.Proofs.YtnionifbhmfkoaaDoor
open Go.RowKit Go.Extern.Stop Go.Stop Go.Extern
set_option maxRecDepth 100000

theorem Tryd.infoS : (Tryd.prog.info? 9).map (fun i => (i.zero, i.size, i.bytes)) = some (some (.string ⟨#[]⟩), 1, 16) := by kernel_rfl

/-- u is a trouble of class c at place a that came through the functions ns. -/
def Chain (w : World) (c a : Int) (bt : Nat) : List ByteArray → Value → Prop
  | [], u => u = .iface 41 (.pointer (some ⟨bt, 0, none⟩)) ∧ w.cell? ⟨bt, 0, none⟩ = some (.int .i64 c) ∧ w.cell? ⟨bt, 1, none⟩ = some (.int .i64 a)
  | n :: ns, u => ∃ (b : Nat) (x : Value), u = .iface 42 (.pointer (some ⟨b, 0, none⟩)) ∧ w.cell? ⟨b, 0, none⟩ = some (.string n) ∧ w.cell? ⟨b, 1, none⟩ = some x ∧ Chain w c a bt ns x
theorem Chain.keep {w w' : World} {c a : Int} {bt : Nat} (hk : ∀ a v, w.cell? a = some v → w'.cell? a = some v) : ∀ ns u, Chain w c a bt ns u → Chain w' c a bt ns u
  | [], _, h => ⟨h.1, hk _ _ h.2.1, hk _ _ h.2.2⟩
  | _ :: ns, _, ⟨b, x, h1, h2, h3, h4⟩ => ⟨b, x, h1, hk _ _ h2, hk _ _ h3, Chain.keep hk ns x h4⟩
theorem Chain.link {w : World} {c a : Int} {bt : Nat} : ∀ ns u, Chain w c a bt ns u → Link w c bt (ns.length + 1) u
  | [], _, h => ⟨h.1, h.2.1⟩
  | _ :: ns, _, ⟨b, x, h1, _, h3, h4⟩ => ⟨b, x, h1, h3, Chain.link ns x h4⟩
theorem Chain.at' {w : World} {c a : Int} {bt : Nat} : ∀ ns u, Chain w c a bt ns u → w.cell? ⟨bt, 1, none⟩ = some (.int .i64 a)
  | [], _, h => h.2.2
  | _ :: ns, _, ⟨_, x, _, _, _, h4⟩ => Chain.at' ns x h4
theorem keep_below {w w' : World} (h : Below w.heap.size w w') : ∀ a v, w.cell? a = some v → w'.cell? a = some v := fun a _ hv => (h.cell (p := a) (World.block_lt_of_cell? w _ hv)).trans hv
theorem Chain.ne_nil {w : World} {c a : Int} {bt : Nat} : ∀ ns u, Chain w c a bt ns u → ∃ t v, u = .iface t v ∧ Calls Tryd.prog 30 #[.iface t v] w fun e w' => e = .returned (.bool false) ∧ w = w'
  | [], _, h => ⟨_, _, h.1, none_trouble _ _⟩
  | n :: ns, _, ⟨b, x, h1, h2, h3, h4⟩ => by
    obtain ⟨t, v, e, _⟩ := Chain.ne_nil ns x h4
    subst e
    exact ⟨_, _, h1, none_call b n t v w h2 h3⟩

set_option maxHeartbeats 1000000 in
theorem made_some (v : Value) (c a : Int) (ns : List ByteArray) (w : World) (hc : (c == 0) = false) (hv : Strs w v ns) (hm : ns.length ≤ maxLen) :
    Calls Tryd.prog 9 #[.int .i64 c, .int .i64 a, v] w fun e w' => ∃ bt u, e = .returned u ∧ Chain w' c a bt ns u ∧ Below w.heap.size w w' := by
  unfold maxLen at hm
  rcases hv with ⟨cap, rfl, ao, rfl⟩ | ⟨b, off, cap, h0, rfl, hcc⟩
  · go_enter Tryd.func9, Tryd.ntmps9
    go_wp2_with (go_at_call 28; refine (raise_some _ _ hc _).mono ?_; rintro e w' ⟨rfl, rfl⟩)
    refine wp_loop_rounds 1 ?_
    rw [rounds_succ]
    go_wp2
    go_ret
    exact ⟨w.heap.size, _, rfl, ⟨rfl, by simp, by simp⟩, (Below.refl _ _).alloc (Nat.le_refl _) _⟩
  · have HC := Lib.hid hcc; clear hcc
    go_enter Tryd.func9, Tryd.ntmps9
    go_wp2_with (go_at_call 28; refine (raise_some _ _ hc _).mono ?_; rintro e w' ⟨rfl, rfl⟩)
    go_loopw [7, 8] (fun u i wr => ∃ k : Nat, k ≤ ns.length ∧ i = .int .i64 ((k : Int) - 1) ∧ Chain wr c a w.heap.size (ns.drop k) u ∧ Below w.heap.size w wr) (fun _ i _ => (intOf i + 1).toNat)
    case atStart =>
      refine ⟨ns.length, Nat.le_refl _, rfl, ?_, (Below.refl _ _).alloc (Nat.le_refl _) _⟩
      rw [List.drop_length]
      exact ⟨rfl, by simp, by simp⟩
    case round =>
      obtain ⟨k, hk, rfl, hch, hB⟩ := hrel
      obtain ⟨tu, vu, rfl, hnone⟩ := hch.ne_nil
      have HCH := Lib.hid hch
      have HN := Lib.hid hnone
      have HB := Lib.hid hB
      clear hch hnone hB
      rcases Nat.eq_zero_or_pos k with rfl | hpos
      · go_wp2
        go_ret
        exact ⟨w.heap.size, _, rfl, by simpa using HCH.out, HB.out⟩
      · obtain ⟨j, rfl⟩ : ∃ j, k = j + 1 := ⟨k - 1, by omega⟩
        have hj : j < ns.length := by omega
        have e1 : ((j + 1 : Nat) : Int) - 1 = (j : Int) := by omega
        rw [e1]
        clear e1
        have hcell : wr.cell? ⟨b, off + j, none⟩ = some (.string ns[j]) := keep_below HB.out _ _ (HC.out j hj)
        go_wp2_with (go_at_call 29; refine (through_some _ _ _ _ HN.out).mono ?_; rintro e w' ⟨rfl, rfl⟩)
        go_roundw
        case rel =>
          refine ⟨j, by omega, rfl, ?_, HB.out.alloc HB.out.size _⟩
          rw [List.drop_eq_getElem_cons hj]
          exact ⟨wr.heap.size, _, rfl, by simp, by simp, HCH.out.keep (keep_alloc _ _)⟩
        case measure => simp [intOf]

set_option maxHeartbeats 1000000 in
theorem made_ok (v : Value) (a : Int) (ns : List ByteArray) (w : World) (hv : Strs w v ns) (hm : ns.length ≤ maxLen) :
    Calls Tryd.prog 9 #[.int .i64 0, .int .i64 a, v] w fun e w' => e = .returned .nilIface ∧ w = w' := by
  unfold maxLen at hm
  rcases hv with ⟨cap, rfl, ao, rfl⟩ | ⟨b, off, cap, h0, rfl, hcc⟩
  · go_enter Tryd.func9, Tryd.ntmps9
    go_wp2_with (go_at_call 28; refine (raise_ok _ _).mono ?_; rintro e w' ⟨rfl, rfl⟩)
    refine wp_loop_rounds 1 ?_
    rw [rounds_succ]
    go_wp2
    go_ret
    exact ⟨rfl, rfl⟩
  · have HC := Lib.hid hcc; clear hcc
    go_enter Tryd.func9, Tryd.ntmps9
    go_wp2_with (go_at_call 28; refine (raise_ok _ _).mono ?_; rintro e w' ⟨rfl, rfl⟩)
    go_loop [7, 8] (fun u i => ∃ k : Nat, k ≤ ns.length ∧ i = .int .i64 ((k : Int) - 1) ∧ u = .nilIface) (fun _ i => (intOf i + 1).toNat)
    case atStart => exact ⟨ns.length, Nat.le_refl _, rfl, rfl⟩
    case round =>
      obtain ⟨k, hk, rfl, rfl⟩ := hrel
      rcases Nat.eq_zero_or_pos k with rfl | hpos
      · go_wp2
        go_ret
        exact ⟨rfl, rfl⟩
      · obtain ⟨j, rfl⟩ : ∃ j, k = j + 1 := ⟨k - 1, by omega⟩
        have hj : j < ns.length := by omega
        have e1 : ((j + 1 : Nat) : Int) - 1 = (j : Int) := by omega
        rw [e1]
        clear e1
        have hcell := HC.out j hj
        go_wp2_with (go_at_call 29; refine (through_nil _ _).mono ?_; rintro e w' ⟨rfl, rfl⟩)
        go_round
        case rel => exact ⟨j, by omega, rfl, rfl⟩
        case measure => simp [intOf]

/-- Names' loop: k rounds to come at most; u is what is left, v the names so far. -/
def NamesRel (w0 : World) (c a : Int) (bt : Nat) (ns : List ByteArray) (g : Nat) (u v : Value) (wr : World) : Prop :=
  Below w0.heap.size w0 wr ∧ ((∃ done rest, ns = done ++ rest ∧ g = rest.length + 2 ∧ Chain w0 c a bt rest u ∧ wr.ownsRow w0.heap.size 9 1 v done.length (done.map Value.string)) ∨
    (g = 1 ∧ u = .iface 38 (.int .i64 c) ∧ wr.ownsRow w0.heap.size 9 1 v ns.length (ns.map Value.string)) ∨ (g = 0 ∧ u = .nilIface ∧ wr.ownsRow w0.heap.size 9 1 v ns.length (ns.map Value.string)))

set_option maxHeartbeats 2000000 in
theorem names_loop (c a : Int) (bt : Nat) (ns : List ByteArray) (g0 : Nat) (u : Value) (w : World) (hc : (c == 0) = false) (hm : ns.length ≤ 60) (hrel0 : NamesRel w c a bt ns g0 u (.slice none 0 0) w) :
    Calls Tryd.prog 12 #[u] w fun e w' => ∃ v, e = .returned v ∧ w'.ownsRow w.heap.size 9 1 v ns.length (ns.map Value.string) ∧ Below w.heap.size w w' := by
  obtain ⟨i0, hi, hz0, hz1, hz2⟩ := info_parts Tryd.infoS
  have H0 := Lib.hid hrel0
  clear hrel0
  go_enter Tryd.func12, Tryd.ntmps12
  go_wp2
  go_loopg [0, 3] g0 (fun g u v wr => NamesRel w c a bt ns g u v wr)
  case atStart => exact H0.out
  case round =>
    obtain ⟨hB, hr⟩ := hrel
    have HB := Lib.hid hB
    rcases hr with ⟨done, rest, hns, hg, hch, hown⟩ | ⟨hg, rfl, hown⟩ | ⟨hg, rfl, hown⟩
    · have HNS := Lib.hid hns
      have HG := Lib.hid hg
      clear hns hg
      have hlen : done.length + rest.length = ns.length := by rw [HNS.out]; simp
      cases rest with
      | nil =>
        obtain ⟨rfl, h1, _⟩ := hch
        have c1 := keep_below hB _ _ h1
        have q1 := ta_PTrouble_PCall
        clear hB h1
        go_wp2_with (first | (go_at_call 30; refine (none_trouble _ _).mono ?_; rintro e w' ⟨rfl, rfl⟩) | (go_at_call 31; refine (unwrap_trouble _ _ _ c1 hc).mono ?_; rintro e w' ⟨rfl, rfl⟩))
        go_roundg 1
        case rel => exact ⟨HB.out, .inr (.inl ⟨rfl, rfl, by have := HNS.out; simp at this; subst this; exact hown⟩)⟩
        case measure => have := HG.out; simp at this; omega
      | cons n rest =>
        obtain ⟨b, x, rfl, h1, h2, h3⟩ := hch
        obtain ⟨tx, vx, rfl, _⟩ := h3.ne_nil
        have c1 := keep_below hB _ _ h1
        have c2 := keep_below hB _ _ h2
        have H3 := Lib.hid h3
        have C2 := Lib.hid h2
        have q1 := ta_PCall_PCall
        have hbw := hB.size
        clear hB h1 h2 h3
        simp only [List.length_cons] at hlen
        go_wp2_with (first
          | (go_at_call 30; refine (none_call _ _ _ _ _ c1 c2).mono ?_; rintro e w' ⟨rfl, rfl⟩)
          | (at_builtin; refine wpList_append_own _ rfl _ _ 22 rfl w.heap.size 9 i0 (.string ⟨#[]⟩) 1 16 Tryd.underlying22 hi hz0 hz1 hz2 rfl (by decide) _ _ _ rfl (hown.alloc _) ⟨wr.heap.size, 0, none⟩ 1 1 [.string n] rfl rfl ?c1 ?c2 ?c3 ?c4 ?c5 ?_))
        case c1 =>
          intro j u hj
          match j, hj with
          | 0, hj => simp at hj; subst hj; simp [Addr.add]
        case c2 => intro u hu; simp at hu; subst hu; rfl
        case c3 => unfold maxLen; omega
        case c4 => omega
        case c5 => exact Nat.le_trans hbw (by simp)
        intro v' w1 hown' hgrow _
        have HB1 := Lib.hid ((HB.out.alloc (Nat.le_trans hbw (Nat.le_refl _)) (.cells #[.string n] 9)).grown hgrow (by simp; omega) (fun k hk => (hown.lt k hk).1))
        have c3 := keep_below HB1.out _ _ (C2.out)
        clear hgrow hown c1 c2
        go_wp2_with (go_at_call 31; refine (unwrap_call _ _ _ c3).mono ?_; rintro e w' ⟨rfl, rfl⟩)
        go_roundg (rest.length + 2)
        case rel => exact ⟨HB1.out, .inl ⟨done ++ [n], rest, by rw [HNS.out]; simp, rfl, H3.out, by simpa using hown'⟩⟩
        case measure => have := HG.out; simp at this; omega
    · have q1 := ta_Class_PCall
      clear hB
      have HG := Lib.hid hg
      clear hg
      go_wp2_with (first | (go_at_call 30; refine (none_class _ _).mono ?_; rintro e w' ⟨rfl, rfl⟩) | (go_at_call 31; refine (unwrap_class _ _).mono ?_; rintro e w' ⟨rfl, rfl⟩))
      go_roundg 0
      case rel => exact ⟨HB.out, .inr (.inr ⟨rfl, rfl, hown⟩)⟩
      case measure => have := HG.out; omega
    · clear hB
      go_wp2_with (go_at_call 30; refine (none_nil _).mono ?_; rintro e w' ⟨rfl, rfl⟩)
      go_ret
      exact ⟨_, rfl, hown, HB.out⟩
end Go.Proofs.YtnionifbhmfkoaaDoor
