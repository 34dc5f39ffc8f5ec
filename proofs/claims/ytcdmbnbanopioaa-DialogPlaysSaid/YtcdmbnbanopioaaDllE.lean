/-
  The laws of dialogues: whatever comes, the program's dialogue answers as the document's.
-/
import Derived.Test.YtcdmbnbanopioaaDllF
namespace Go.Proofs.Ytcdmbnbanopioaa
open Go.RowKit
set_option linter.unusedVariables false

theorem cells_four (w : World) (x0 x1 x2 x3 : Value) (E : TypeId) : CellsAt (w.alloc (.cells #[x0, x1, x2, x3] E)) 4 (.slice (some ⟨w.heap.size, 0, none⟩) 1 1) 1 [x0, x1, x2, x3] := by
  refine ⟨rfl, _, 1, rfl, Nat.le_refl _, fun _ => ⟨w.heap.size, 0, rfl, by simp, fun j x hj => ?_⟩⟩
  rw [World.cell?_alloc_new, Nat.zero_add]
  simpa using hj
theorem fourC_new (w : World) (x0 x1 x2 x3 : Value) (E : TypeId) : ∃ W, w.alloc (.cells #[x0, x1, x2, x3] E) = W ∧ Grew w W ∧ FourC W w.heap.size x0 x1 x2 x3 :=
  ⟨_, rfl, (Grew.refl _).alloc _, by simp, by simp [go_sem], by simp [go_sem], by simp [go_sem], by simp [go_sem], by simp [go_sem]⟩
theorem FourC.grew {w w' : World} {p : Nat} {x0 x1 x2 x3 : Value} (h : FourC w p x0 x1 x2 x3) (g : Grew w w') : FourC w' p x0 x1 x2 x3 :=
  ⟨Nat.lt_of_lt_of_le h.lt g.size, (g.cell (p := ⟨p, 0, none⟩) h.lt).trans h.c0, (g.cell (p := ⟨p, 1, none⟩) h.lt).trans h.c1, (g.cell (p := ⟨p, 2, none⟩) h.lt).trans h.c2, (g.cell (p := ⟨p, 3, none⟩) h.lt).trans h.c3, (g.frozen (p := ⟨p, 0, none⟩) h.lt).trans h.f0⟩
theorem FourC.put0 {w : World} {p : Nat} {x0 x1 x2 x3 : Value} (h : FourC w p x0 x1 x2 x3) (u : Value) : FourC (w.setCell ⟨p, 0, none⟩ u) p u x1 x2 x3 := by
  obtain ⟨l, c0, c1, c2, c3, f0⟩ := h
  have ne : ∀ {i j : Nat}, i ≠ j → (⟨p, i, none⟩ : Addr) ≠ ⟨p, j, none⟩ := fun hj e => hj (by injection e)
  exact ⟨by simpa [World.setCell] using l, World.cell?_setCell_same _ _ _ c0, (World.cell?_setCell_other _ _ _ _ (ne (by omega))).trans c1, (World.cell?_setCell_other _ _ _ _ (ne (by omega))).trans c2, (World.cell?_setCell_other _ _ _ _ (ne (by omega))).trans c3, by simpa [go_sem] using f0⟩
theorem own_litD {B : Nat} (w : World) (E : TypeId) (hB : B ≤ w.heap.size) : Own B E .u8 (w.alloc (.cells #[] E)) (.slice (some ⟨w.heap.size, 0, none⟩) 0 0) [] := Own.lit w .u8 E B hB [] (by decide)
theorem Grew.pushD {w0 w w' : World} {B : Nat} {E : TypeId} {k : IntKind} {v : Value} {ns : List Nat} (g : Grew w0 w) (h : Own B E k w v ns) (hB : w0.heap.size ≤ B) (hg : w.grownBy w' v.ownBlock) : Grew w0 w' :=
  Below.grown g hg g.size (fun b hb => Nat.le_trans hB (World.ownsRow.lt h b hb).1)
theorem Own.baseD {B B' : Nat} {E : TypeId} {k : IntKind} {w : World} {v : Value} {ns : List Nat} (h : Own B E k w v ns) (hB : B' ≤ B) : Own B' E k w v ns := by
  obtain ⟨h1, h2⟩ := h
  refine ⟨h1, ?_⟩
  rcases h2 with h2 | ⟨b, cap, cur, e, hb, hh, r⟩
  · exact .inl h2
  · exact .inr ⟨b, cap, cur, e, Nat.le_trans hB hb, hh, r⟩
theorem ownsRow_apart {w : World} {B1 B2 E1 E2 s1 s2 n1 n2 : Nat} {v1 v2 : Value} {xs1 xs2 : List Value} (h1 : w.ownsRow B1 E1 s1 v1 n1 xs1) (h2 : w.ownsRow B2 E2 s2 v2 n2 xs2) (hE : E1 ≠ E2) (x : Nat) (e1 : v1.ownBlock = some x) (e2 : v2.ownBlock = some x) : False := by
  rcases h1.2 with ⟨e, _⟩ | ⟨b, cap, cur, e, _, hh, _⟩
  · rw [e] at e1; simp [Value.ownBlock] at e1
  · rcases h2.2 with ⟨f, _⟩ | ⟨b', cap', cur', f, _, hh', _⟩
    · rw [f] at e2; simp [Value.ownBlock] at e2
    · rw [e] at e1
      rw [f] at e2
      simp [Value.ownBlock] at e1 e2
      subst e1 e2
      rw [hh] at hh'
      simp at hh'
      exact hE hh'.2
/-- One command more. -/
theorem InAt.next {w w' : World} {B k g2 cap : Nat} {v fv : Value} {cs : List Cmd} {vs : List Value} {c : Cmd} (h : InAt w B k v cs vs) (hv : ∀ (i : Nat) (c : Cmd) (fv : Value), cs[i]? = some c → vs[i]? = some fv → Own B 5 .u8 w' fv c.b)
    (hown : w'.ownsRow B 28 4 (.slice (some ⟨g2, 0, none⟩) (k + 1) cap) (k + 1) (flatK cs vs ++ cmdCells c fv)) (hb : Own B 5 .u8 w' fv c.b) : InAt w' B (k + 1) (.slice (some ⟨g2, 0, none⟩) (k + 1) cap) (cs ++ [c]) (vs ++ [fv]) := by
  refine ⟨by rw [flatK_append _ _ _ _ (h.len.1.trans h.len.2.symm)]; exact hown, ⟨by rw [List.length_append, h.len.1]; rfl, by rw [List.length_append, h.len.2]; rfl⟩, fun i q u h1 h2 => ?_⟩
  rw [List.getElem?_append] at h1 h2
  rw [h.len.2] at h1
  rw [h.len.1] at h2
  by_cases e : i < k
  · rw [if_pos e] at h1 h2
    exact hv i q u h1 h2
  · rw [if_neg e] at h1 h2
    have e0 : i - k = 0 := by
      have := (List.getElem?_eq_some_iff.1 h1).1
      simp at this
      exact this
    rw [e0] at h1 h2
    simp at h1 h2
    subst h1 h2
    exact hb
-- [PLAYS
set_option maxRecDepth 100000 in
set_option maxHeartbeats 8000000 in
theorem law_DialogPlays {R : (Nat → Prop) → World → Value → (Nat → Prop) → Dlg → Prop} (C : DlgCalls R) (X : Nat → Prop) (lv ov : Value) (cs : List Cmd) (os : List Opr) (tmo tries : Int) (w : World) (h1 : CmdsAt X w lv cs) (h2 : OpsAt w ov os) (hX : ∀ b, X b → b < w.heap.size) (n1 : cs.length ≤ 281474976710656) (n2 : os.length ≤ 281474976710656) (m1 : ∀ c ∈ cs, c.wait < 256 ∧ c.cls < 256 ∧ c.id < 256 ∧ Bytes c.b ∧ c.b.length ≤ 281474976710656)
    (m2 : ∀ q ∈ os, q.fk < 256 ∧ Bytes q.fs ∧ q.fs.length ≤ 281474976710656 ∧ (-9223372036854775808 ≤ q.at_ ∧ q.at_ ≤ 9223372036854775807)) (ht : -9223372036854775808 ≤ tmo ∧ tmo ≤ 9223372036854775807) (hr : -9223372036854775808 ≤ tries ∧ tries ≤ 9223372036854775807) :
    Calls Try.prog 3 #[lv, .int .i64 tmo, .int .i64 tries, ov] w fun e w' => e = .returned (.bool true) ∧ Grew w w' := by
  have H1 := Lib.hid h1
  have H2 := Lib.hid h2
  have M1 := Lib.hid m1
  have M2 := Lib.hid m2
  have HXX := Lib.hid hX
  have HG := Lib.hid (law_great X lv ov cs os w h1 h2 n1 n2 (fun c hc => (m1 c hc).2.2.2.2) (fun q hq => (m2 q hq).2.2.1))
  have HK := fun w' => Lib.hid (law_known14 C w')
  unfold GreatT at HG
  obtain ⟨A1, c1, rfl, hc1, _⟩ := h1
  obtain ⟨A2, c2, rfl, hc2, _⟩ := h2
  clear m1 m2 n1 n2 hX
  go_enter Try.func3, Try.ntmps3
  go_upto_region 1 with fail
  go_cut [32] (fun s wx => ∃ r : Bool, s = .bool r ∧ wx = w ∧ (r = false → (∀ c ∈ cs, c.b.length ≤ 1100) ∧ cs.length ≤ 20 ∧ (∀ q ∈ os, q.fs.length ≤ 1100) ∧ os.length ≤ 60))
  case first =>
    go_wp2_with (go_at_call 5; refine HG.out.mono ?_; rintro e w1 ⟨r, rfl, rfl, hb⟩)
    go_meet
    case rel => exact ⟨r, rfl, rfl, hb⟩
  case rest =>
    obtain ⟨r, rfl, hwc, hb⟩ := hcut
    subst hwc
    cases r with
    | true =>
      go_wp2_with (go_at_call 6; refine (HK _).out.mono ?_; rintro e w2 ⟨rfl, g2⟩)
      go_ret
      exact ⟨rfl, g2⟩
    | false =>
      obtain ⟨hb1, hb2, hb3, hb4⟩ := hb rfl
      have HB1 := Lib.hid hb1
      have HB3 := Lib.hid hb3
      obtain ⟨w0, hw0⟩ : ∃ x, x = wc := ⟨_, rfl⟩
      subst hw0
      clear HG hb hb1 hb3
      have I0 : InAt w0 w0.heap.size 0 (.slice none 0 0) (cs.take 0) [] := ⟨⟨rfl, .inl ⟨rfl, rfl⟩⟩, ⟨rfl, by simp⟩, fun i c fv h => by simp at h⟩
      go_wp2_with fail
      go_loopw [9, 36] (fun a i wr => ∃ (k : Nat) (vs : List Value), k ≤ cs.length ∧ i = .int .i64 (k : Nat) ∧ Hid (InAt wr w0.heap.size k a (cs.take k) vs) ∧ Hid (Grew w0 wr)) (fun _ i _ => cs.length - (intOf i).toNat)
      case atStart => exact ⟨0, [], Nat.zero_le _, rfl, Lib.hid I0, Lib.hid (Grew.refl _)⟩
      case round =>
        obtain ⟨k, vs, hk, rfl, HI, G⟩ := hrel
        by_cases hlt : k < cs.length
        · obtain ⟨b, o, cc, fv, e, _, hd, _⟩ := (H1.out.grew G.out).at_ k hlt
          cases e
          have q0 := hd.c0
          have q1 := hd.c1
          have q2 := hd.c2
          have q3 := hd.c3
          have hbw := hd.lt
          have hm := HB1.out _ (List.getElem_mem hlt)
          have HRW := Lib.hid hd.row
          obtain ⟨A3, c3, rfl, hc3, _⟩ := hd.row
          have hki : (k : Int) < cs.length := by omega
          have hgk : Hid (cs.take (k + 1) = cs.take k ++ [cs[k]]) := Lib.hid (List.take_succ_eq_append_getElem hlt)
          clear hd
          generalize cs[k] = q at *
          obtain ⟨Ai, ci, rfl, hci⟩ : ∃ Ai ci, u9 = .slice Ai k ci ∧ k ≤ ci := by obtain ⟨_, A1, c1, e, h1, _⟩ := CellsAt.of_own HI.out.own; exact ⟨A1, c1, e, h1⟩
          go_upto_region 7 with fail
          obtain ⟨V, hV, gV, TV⟩ := fourC_new wr (.slice A3 q.b.length c3) (.int .u8 (q.wait : Nat)) (.int .u8 (q.cls : Nat)) (.int .u8 (q.id : Nat)) 28
          rw [hV]
          clear hV q0 q1 q2 q3
          have TV1 := Lib.hid TV
          have hV0 := own_litD (B := V.heap.size) V 5 (Nat.le_refl _)
          have gE := (Grew.refl V).alloc (.cells #[] 5)
          have hRV := (HRW.out.grew gV).grew gE
          obtain ⟨l0, e0, e1, e2, e3, z0⟩ := TV.grew gE
          go_upto_region 8 with (refine wpList_joinN _ rfl _ _ 26 rfl V.heap.size 5 .u8 1 Try.underlying26 infoU8 (.slice (some ⟨V.heap.size, 0, none⟩) 0 0) [] rfl hV0 (.slice A3 q.b.length c3) q.b rfl hRV (by simp only [List.length_nil]; omega) (by decide) (by simp) ?_; intro v2 w2 hown2 hgrow2 hnil2; have G12 : Grew V w2 := Grew.pushD gE hV0 (Nat.le_refl _) hgrow2; obtain ⟨g2, cap2, rfl, hg2, hlt2, hm2⟩ := hown2.head (hnil2 (by simp)); obtain ⟨l1, u0, u1, u2, u3, y0⟩ := TV1.out.grew G12)
          have TW := Lib.hid (TV1.out.grew G12)
          rw [List.nil_append] at hown2
          have hg2n : Hid (¬ g2 = wr.heap.size) := Lib.hid (by have := gV.size; have := TV1.out.lt; show ¬ _; omega)
          have FP := (Far.refl (fun b => b = wr.heap.size) w2).setCell (p := ⟨wr.heap.size, 0, none⟩) rfl (.slice (some ⟨g2, 0, none⟩) q.b.length cap2)
          have TW2 := TW.out.put0 (.slice (some ⟨g2, 0, none⟩) q.b.length cap2)
          have GW := (gV.trans G12).setCell (p := ⟨wr.heap.size, 0, none⟩) (Nat.le_refl _) (.slice (some ⟨g2, 0, none⟩) q.b.length cap2)
          have hown3 : Own w0.heap.size 5 .u8 (w2.setCell ⟨wr.heap.size, 0, none⟩ (.slice (some ⟨g2, 0, none⟩) q.b.length cap2)) (.slice (some ⟨g2, 0, none⟩) q.b.length cap2) q.b := by
            have := (hown2.far FP (fun b hb e => hg2n.out (by simp [Value.ownBlock] at hb; rw [hb]; exact e)))
            exact Own.baseD this (by have := G.out.size; have := gV.size; omega)
          obtain ⟨W3, hW3⟩ : ∃ W3, w2.setCell ⟨wr.heap.size, 0, none⟩ (.slice (some ⟨g2, 0, none⟩) q.b.length cap2) = W3 := ⟨_, rfl⟩
          rw [hW3] at TW2 GW hown3 ⊢
          clear hW3 FP TW hown2 hgrow2 hnil2 hRV hV0 l0 e0 e1 e2 e3 z0 l1 u0 u1 u2 u3 y0 G12 gE
          have HOW := Lib.hid hown3
          have GW3 := Lib.hid GW
          have gB := (Grew.refl W3).alloc (.cells #[.slice (some ⟨g2, 0, none⟩) q.b.length cap2, .int .u8 (q.wait : Nat), .int .u8 (q.cls : Nat), .int .u8 (q.id : Nat)] 28)
          have GB := Lib.hid gB
          have HO1 := ownsRow_grew HI.out.own (GW.trans gB)
          have HL1 := cells_four W3 (.slice (some ⟨g2, 0, none⟩) q.b.length cap2) (.int .u8 (q.wait : Nat)) (.int .u8 (q.cls : Nat)) (.int .u8 (q.id : Nat)) 28
          have hbase : w0.heap.size ≤ (W3.alloc (.cells #[.slice (some ⟨g2, 0, none⟩) q.b.length cap2, .int .u8 (q.wait : Nat), .int .u8 (q.cls : Nat), .int .u8 (q.id : Nat)] 28)).heap.size := by have := (G.out.trans (GW.trans gB)).size; omega
          obtain ⟨l2, p0, p1, p2, p3, _⟩ := TW2
          have hbl : ∀ b, (Value.slice Ai k ci).ownBlock = some b → w0.heap.size ≤ b := fun b hb => (World.ownsRow.lt HI.out.own b hb).1
          have HBL := Lib.hid hbl
          clear hown3 GW hbl gB
          go_wp2_with (refine wpList_joinC _ rfl _ _ 22 rfl w0.heap.size 28 _ 4 32 rfl infoCmd rfl (by decide) (.slice Ai k ci) k _ rfl HO1 _ 1 _ rfl HL1 (fun u hu => by simp at hu; rcases hu with rfl | rfl | rfl | rfl <;> rfl) (by unfold maxLen; omega) (by omega) hbase ?_; intro v5 w5 hown5 hgrow5 hnil5; have HF := own_form (n := k + 1) (by rw [Nat.zero_add]; exact hown5) (fun e => absurd (hnil5.1 e).2 (by decide)); obtain ⟨g5, cap5, rfl, hg5, hlt5, hcap5⟩ := HF)
          have hF5 := far_grown hgrow5
          have gAll := GW3.out.trans GB.out
          have hbyt : ∀ (i : Nat) (c : Cmd) (fv : Value), (cs.take k)[i]? = some c → vs[i]? = some fv → Own w0.heap.size 5 .u8 w5 fv c.b := fun i c fv h1 h2 =>
            Own.far ((HI.out.byt i c fv h1 h2).grew gAll) hF5 (fun b hb e => ownsRow_apart HO1 ((HI.out.byt i c fv h1 h2).grew gAll) (by decide) b e hb)
          have hnew : Own w0.heap.size 5 .u8 w5 (.slice (some ⟨g2, 0, none⟩) q.b.length cap2) q.b := Own.far (HOW.out.grew GB.out) hF5 (fun b hb e => ownsRow_apart HO1 (HOW.out.grew GB.out) (by decide) b e hb)
          have hIN : InAt w5 w0.heap.size (k + 1) (.slice (some ⟨g5, 0, none⟩) (k + 1) cap5) (cs.take (k + 1)) (vs ++ [.slice (some ⟨g2, 0, none⟩) q.b.length cap2]) := by
            rw [hgk.out]
            exact HI.out.next hbyt hown5 hnew
          have gW5 : Grew w0 w5 := Below.grown (G.out.trans gAll) hgrow5 (G.out.trans gAll).size (fun b hb => HBL.out b hb)
          exact ⟨⟨k + 1, _, by omega, by go_num, Lib.hid hIN, Lib.hid gW5⟩, by simp [intOf]; omega⟩
        · obtain rfl : k = cs.length := by omega
          rw [List.take_length] at HI
          have hkk : ∀ c ∈ cs, c.wait < 256 ∧ c.cls < 256 ∧ c.id < 256 := fun c hc => ⟨(M1.out c hc).1, (M1.out c hc).2.1, (M1.out c hc).2.2.1⟩
          have HN := Lib.hid (C.new _ u9 cs tmo tries wr (HI.out.cmds hkk) (fun b hb => hb.2) hb2 (fun c hc => ⟨(M1.out c hc).1, (M1.out c hc).2.1, (M1.out c hc).2.2.1, (M1.out c hc).2.2.2.1, HB1.out c hc⟩) ht hr)
          have HM := Lib.hid (fun w' (g : Grew w0 w') => law_may X _ cs tmo tries w' (H1.out.grew g) hb2 HB1.out ht hr)
          unfold MayT at HM
          obtain ⟨Ai, ci, rfl, hci⟩ : ∃ Ai ci, u9 = .slice Ai cs.length ci ∧ cs.length ≤ ci := by obtain ⟨_, A1, c1, e, h1, _⟩ := CellsAt.of_own HI.out.own; exact ⟨A1, c1, e, h1⟩
          by_cases hmay : mayDlg cs tmo tries
          · go_upto_region 11 with (go_at_call 7; refine HN.out.mono ?_; rintro e w5 ⟨g5, hy, _⟩; obtain ⟨p, F, KR, rfl, hR, hF⟩ := hy hmay)
            have G5 := Lib.hid (G.out.trans g5)
            have HMM := Lib.hid (HM.out _ G5.out)
            have hR' := Lib.hid hR
            have hF' := Lib.hid hF
            have IW := Lib.hid ((HI.out.writes (fun c hc => (hmay.1 c hc).1)))
            clear hR hF HN HM
            go_upto_region 13 with (go_at_call 8; refine HMM.out.mono ?_; rintro e w6 ⟨r2, rfl, g6, hm⟩; obtain rfl : r2 = true := hm.2 hmay; clear hm)
            have hR6 := Lib.hid (C.far hR'.out (Far.of_grew (F := fun _ => False) g6) (fun _ _ q => q))
            have G6 := Lib.hid (G5.out.trans g6)
            have W6 := Lib.hid (IW.out.grew (g5.trans g6))
            have hFB : ∀ b, F b ∨ KR b → ¬ (w0.heap.size ≤ b ∧ b < wr.heap.size) := fun b hb e => by have := hF'.out b hb; omega
            have HFB := Lib.hid hFB
            have HF1 : Hid (∀ b, F b ∨ KR b → w0.heap.size ≤ b) := Lib.hid (fun b hb => by have := hF'.out b hb; have := G.out.size; omega)
            clear hFB IW hR' hF' HI HMM
            obtain ⟨U, hU⟩ : ∃ U, wr.heap.size = U := ⟨_, rfl⟩
            rw [hU] at W6 HFB
            clear hU
            go_wp2_with fail
            go_loopw [79] (fun i wz => ∃ k : Nat, k ≤ cs.length ∧ i = .int .i64 (k : Nat) ∧ Hid (Writes wz w0.heap.size U (.slice Ai cs.length ci) cs.length) ∧ Hid (Far (fun b => w0.heap.size ≤ b ∧ b < U) w6 wz)) (fun i _ => cs.length - (intOf i).toNat)
            case atStart => exact ⟨0, Nat.zero_le _, rfl, W6, Lib.hid (Far.refl _ _)⟩
            case round =>
              obtain ⟨k, hk, rfl, HW, HFa⟩ := hrel
              by_cases hlt : k < cs.length
              · obtain ⟨hU, A', c', e, hc', hrr⟩ := HW.out
                cases e
                obtain ⟨gi, rfl, hgi, hff⟩ := hrr (by omega)
                obtain ⟨bb, mm, cp, xx, p1, p2, p3, p4, p5, p6, p7⟩ := hff k hlt
                have hki : (k : Int) < cs.length := by omega
                have hmi : (0 : Int) < mm := by omega
                have HW2 := Lib.hid (HW.out.put (b := bb) (IntKind.u8.wrap (xx + 1)) (fun g c e => by cases e; exact p7))
                have HF2 := Lib.hid (HFa.out.setCell (p := ⟨bb, 0, none⟩) ⟨p5, p6⟩ (.int .u8 (IntKind.u8.wrap (xx + 1))))
                clear hrr hff
                have hbbl : bb < wr.heap.size := by omega
                go_wp2_with fail
                go_round
                case rel => exact ⟨k + 1, by omega, by go_num, HW2, HF2⟩
                case measure => simp [intOf]; omega
              · obtain rfl : k = cs.length := by omega
                have GZ : Grew w0 wr := HFa.out.grew G6.out (fun b hb => hb.1)
                have hRZ := C.far hR6.out HFa.out HFB.out
                obtain ⟨tn, htn⟩ : ∃ tn : Nat, tries.toNat = tn := ⟨_, rfl⟩
                obtain ⟨_, hc16, t1, t2, t3, t4⟩ := id hmay
                have htr : tries = (tn : Int) := by omega
                have hok := DlgOk.new hmay
                rw [htn] at hRZ hok
                subst htr
                clear htn
                have HNW := Lib.hid (ref14_New X _ cs tmo tn wr (H1.out.grew GZ) (fun b hb => Nat.lt_of_lt_of_le (HXX.out b hb) GZ.size) hc16 hkk (fun c hc => (hmay.1 c hc).1) ⟨t1, t2⟩ (by omega))
                have GZ' := Lib.hid GZ
                have hOK := Lib.hid hok
                have hRZ' := Lib.hid hRZ
                clear GZ hok hRZ hR6 W6 HW HFa
                go_upto_region 21 with (go_at_call 9; refine HNW.out.mono ?_; rintro e w8 ⟨g, L, rfl, hg, hL, hD, g8⟩)
                have hLies : Hid (Lies R X KR w0 w8 (.pointer (some p)) F g L (dlgNew cs tmo tn) (dlgNew cs tmo tn)) := Lib.hid ⟨C.far hRZ'.out (Far.of_grew (F := fun _ => False) g8) (fun _ _ q => q), hD, GZ'.out.trans g8, fun b hb => HF1.out b (.inl hb), fun b hb => HF1.out b (.inr hb), fun e => by have := C.lt hRZ'.out _ (.inr e); omega, fun b hb e => by have := C.lt hRZ'.out _ (.inr e); have := hL b hb; omega, Nat.le_trans GZ'.out.size hg, fun b hb => Nat.le_trans GZ'.out.size (hL b hb), fun e => by have := C.lt hRZ'.out _ (.inl e); omega, fun b hb e => by have := C.lt hRZ'.out _ (.inl e); have := hL b hb; omega, HXX.out⟩
                clear hRZ' HNW hD hL hg g8
                go_wp2_with fail
                go_loopw [12, 15, 98] (fun a b i wr => ∃ (k : Nat) (p : Addr) (F : Nat → Prop) (g : Nat) (L : Value) (d : Dlg), k ≤ os.length ∧ a = .pointer (some p) ∧ b = .pointer (some ⟨g, 0, none⟩) ∧ i = .int .i64 (k : Nat) ∧ Hid (Lies R X KR w0 wr (.pointer (some p)) F g L d d) ∧ Hid (DlgOk d)) (fun _ _ i _ => os.length - (intOf i).toNat)
                case atStart => exact ⟨0, p, F, g, L, _, Nat.zero_le _, rfl, rfl, rfl, hLies, hOK⟩
                case round =>
                  obtain ⟨k, p, F, g, L, d, hk, rfl, rfl, rfl, hLy, hOk⟩ := hrel
                  by_cases hlt : k < os.length
                  · obtain ⟨b, o, cc, fv, e, _, hd⟩ := (H2.out.grew hLy.out.grew).at_ k hlt
                    cases e
                    have q0 := hd.c0
                    have q1 := hd.c1
                    have q2 := hd.c2
                    have q3 := hd.c3
                    have hbw := hd.lt
                    have hm2 := M2.out _ (List.getElem_mem hlt)
                    have hm3 := HB3.out _ (List.getElem_mem hlt)
                    have HRW := Lib.hid hd.row
                    obtain ⟨b0, o0, cc0, fv0, e0, _, hd0⟩ := H2.out.at_ k hlt
                    cases e0
                    have ev : fv = fv0 := Option.some.inj (hd.c3.symm.trans ((hLy.out.grew.cell (p := ⟨b, o + k * 4 + 3, none⟩) hd0.lt).trans hd0.c3))
                    subst ev
                    have HRG0 := fun w' (g : Grew w0 w') => hd0.row.grew g
                    obtain ⟨A3, c3, rfl, hc3, _⟩ := hd.row
                    have hki : (k : Int) < os.length := by omega
                    clear hd0
                    clear hd
                    generalize os[k] = q at *
                    have HRG := Lib.hid HRG0
                    clear HRG0
                    obtain ⟨V, hV, gV, TV⟩ := fourC_new wr (.int .i64 q.kind) (.int .i64 q.at_) (.int .u8 (q.fk : Nat)) (.slice A3 q.fs.length c3) 39
                    have hLV := Lib.hid (hLy.out.grown C gV)
                    have TV1 := Lib.hid TV
                    have HRV := Lib.hid (HRW.out.grew gV)
                    have HVV := Lib.hid hV
                    clear hV TV
                    go_upto_region 23 with fail
                    go_cut [17] (fun s wx => s = .pointer (some ⟨wr.heap.size, 0, none⟩) ∧ wx = V)
                    case first =>
                      go_wp2_with fail
                      go_meet
                      case rel => exact ⟨rfl, HVV.out⟩
                    case rest =>
                      rename_i K9 HK9
                      obtain ⟨rfl, hwv⟩ := hcut
                      subst hwv
                      obtain ⟨po, hpo⟩ : ∃ po, wr.heap.size = po := ⟨_, rfl⟩
                      rw [hpo] at TV1 ⊢
                      obtain ⟨lV, v0, v1, v2, v3, _⟩ := TV1.out
                      have hFpo : Hid (∀ b, F b → b < po) := Lib.hid (fun b hb => by rw [← hpo]; exact C.lt hLy.out.prog b (.inl hb))
                      have hgpo : g < po := by rw [← hpo]; exact hLy.out.doc.lt
                      have hLpo : Hid (∀ b, L.ownBlock = some b → b < po) := Lib.hid (fun b hb => by rw [← hpo]; exact (hLy.out.doc.own b hb).1)
                      have hw0p : w0.heap.size ≤ po := by rw [← hpo]; exact hLy.out.grew.size
                      have hfB := Lib.hid hm2.2.1
                      clear HVV gV hLy HRW q0 q1 q2 q3 hpo
                      refine HK9 _ _ ?_
                      clear HK9
                      refine wp_seq_k (fun K8 HK8 => ?_)
                      go_cut [12, 15] (fun a b wx => ∃ (p : Addr) (F : Nat → Prop) (g : Nat) (L : Value) (d : Dlg), a = .pointer (some p) ∧ b = .pointer (some ⟨g, 0, none⟩) ∧ Hid (Lies R X KR w0 wx (.pointer (some p)) F g L d d) ∧ Hid (DlgOk d))
                      case first =>
                        go_upto_block 6 with fail
                        refine wp_thenS (plays_switch C X KR w0 wc po p F g L d q.kind q.at_ q.fk q.fs A3 c3 hLV hOk TV1 HRG hFpo hgpo hLpo hw0p hm2.2.2.2 hm2.1 hfB hm3 _ _ _ _ _ _ _ _ _ _ _ _ _ _ _ _ _ _ _ _ _ _ _ _ _ _ _ _ _ _ _ _ _ _ _ _ _ _ _ _ _ _ _ _ _ _ _ _ _ _ _ _ _ _ _ _ _ _ _ _ _ _ _ _ _ _ _ _ _ _ _ _ _ _ _ _ _ _ _ _ _ _ _ _ _ _ _ _ _ _ _ _ _ _ _ _ _ _ _ _ _ _ _ _ _ _ _ _ _ _ _ _ _ _ _ _ _ _ _ _ _ _ _ _ _ _ _ _ _ _ _ _ _ _ _ _ _ _ _ _ _ _ _ _ _ _ _ _ _ _ _ _ _ _ _ _ _ _ _ _ _ _ _ _ _ _ _ _ _ _ _ _ _ _ _ _ _ _ _ _ _ _ _ _ _ _ _ _ _ _ _ _ _ _ _ _ _ _ _ (fun p2 F2 g2 L2 d2 wq s18 s19 s20 s21 s22 s23 s104 s105 s106 s107 s108 s109 s110 s111 s112 s113 s114 s115 s116 s117 s118 s119 s120 s121 s122 s123 s124 s125 s126 s127 s128 s129 s130 s131 s132 s133 s134 s135 s136 s137 s138 s139 s140 s141 s142 s143 s144 s145 s146 s147 s148 s149 s150 s151 s152 s153 s154 s155 s156 s157 s158 s159 s160 s161 s162 s163 s164 s165 s166 s167 hL9 hO9 => ?_))
                        go_wp2_with fail
                        go_meet
                        case rel => exact ⟨p2, F2, g2, L2, d2, rfl, rfl, hL9, hO9⟩
                      case rest =>
                        obtain ⟨p9, F9, g9, L9, d9, rfl, rfl, hL9, hO9⟩ := hcut
                        obtain ⟨wY, hwY⟩ : ∃ x, x = wc := ⟨_, rfl⟩
                        subst hwY
                        refine HK8 _ _ ?_
                        clear HK8
                        have CP := Lib.hid (C.counts KR wY (.pointer (some p9)) F9 d9 hL9.out.prog hO9.out)
                        have CD := Lib.hid (fun w' (g : Grew wY w') => ref14_Counts X g9 L9 d9 w' (hL9.out.doc.grew g))
                        have FP := Lib.hid (fun w' (g : Grew wY w') => C.flying KR w' (.pointer (some p9)) F9 d9 (C.far hL9.out.prog (Far.of_grew (F := fun _ => False) g) (fun _ _ q => q)) hO9.out)
                        have FD := Lib.hid (fun w' (g : Grew wY w') => ref14_Flying X g9 L9 d9 w' (hL9.out.doc.grew g))
                        obtain ⟨n1, hn1⟩ : ∃ n, doneOf d9.rows = n := ⟨_, rfl⟩
                        obtain ⟨n2, hn2⟩ : ∃ n, lostOf d9.rows = n := ⟨_, rfl⟩
                        obtain ⟨n3, hn3⟩ : ∃ n, leftOf d9.rows = n := ⟨_, rfl⟩
                        obtain ⟨fl, hfl⟩ : ∃ n, flyOf d9.rows = n := ⟨_, rfl⟩
                        rw [hn1, hn2, hn3] at CP CD
                        rw [hfl] at FP FD
                        clear hn1 hn2 hn3 hfl
                        go_upto_region 44 with (go_at_call 16; refine CP.out.mono ?_; rintro e w1 ⟨rfl, g1⟩)
                        go_upto_region 45 with (go_at_call 17; refine (CD.out _ g1).mono ?_; rintro e w2 ⟨rfl, g2⟩)
                        have GA := Lib.hid (g1.trans g2)
                        go_wp2_with (first | (go_at_call 18; refine (FP.out _ GA.out).mono ?_; rintro e w3 ⟨rfl, g3⟩) | (go_at_call 19; refine (FD.out _ (GA.out.trans g3)).mono ?_; rintro e w4 ⟨rfl, hw4⟩; subst hw4))
                        have L10 := Lib.hid (hL9.out.grown C (GA.out.trans g3))
                        have hk1 : k + 1 ≤ os.length := by omega
                        have hms : os.length - (intOf (Value.int .i64 ((k : Int) + 1))).toNat < os.length - (intOf (Value.int .i64 (k : Nat))).toNat := by
                          show os.length - ((k : Int) + 1).toNat < os.length - ((k : Nat) : Int).toNat
                          clear hm2 hm3 HK
                          omega
                        exact ⟨⟨k + 1, p9, F9, g9, L9, d9, hk1, rfl, rfl, rfl, L10, hO9⟩, hms⟩
                  · obtain rfl : k = os.length := by omega
                    go_wp2_with (go_at_call 6; refine (HK _).out.mono ?_; rintro e w9 ⟨rfl, g9⟩)
                    go_ret
                    exact ⟨rfl, hLy.out.grew.trans g9⟩
          · go_upto_region 11 with (go_at_call 7; refine HN.out.mono ?_; rintro e w5 ⟨g5, _, hy⟩; obtain rfl := hy hmay)
            have G5 := Lib.hid (G.out.trans g5)
            have HMM := Lib.hid (HM.out _ G5.out)
            clear HN HM
            go_wp2_with (first | (go_at_call 8; refine HMM.out.mono ?_; rintro e w6 ⟨r2, rfl, g6, hm⟩; obtain rfl : r2 = false := by cases r2 with | false => rfl | true => exact absurd (hm.1 rfl) hmay) | (go_at_call 6; refine (HK _).out.mono ?_; rintro e w7 ⟨rfl, g7⟩))
            go_ret
            exact ⟨rfl, (G5.out.trans g6).trans g7⟩
-- PLAYS]
end Go.Proofs.Ytcdmbnbanopioaa
