/-
  The law of sentences: the talker is nothing to it, twenty commas more are too many fields (plain facts); the known answers.
-/
import Derived.Test.YtajgicliepenkaaDoorNmpU
import Derived.BigFrame
namespace Go.Proofs.YtajgicliepenkaaDoor
open Go.RowKit
set_option linter.unusedVariables false

theorem parse_err (s : ByteArray) (h : (parseOf s).2 ≠ 0) : (parseOf s).1 = {} := by
  unfold parseOf fixOf at h ⊢
  split
  · rfl
  · rename_i h1
    rw [if_neg h1] at h
    split
    · rfl
    · rename_i h2
      rw [if_neg h2] at h
      split
      · rfl
      · rename_i h3
        rw [if_neg h3] at h
        split
        · rfl
        · rename_i h4
          rw [if_neg h4] at h
          exact absurd rfl h
theorem fields_bytes (s : ByteArray) : fieldsOf s = (partsL (bytesOf s)).map (·.map UInt8.toNat) := by
  rw [← partsB_bytes, List.map_map]
  rfl
theorem readOf_tail (f f' : Nat → List Nat) (k n : Nat) (h : ∀ j, 1 ≤ j → f j = f' j) : readOf f k n = readOf f' k n := by
  have e : ∀ f : Nat → List Nat, readOf f k n = readOf (fun j => f (j - 1 + 1)) k n := fun _ => rfl
  rw [e f, e f']
  congr 1
  funext j
  exact h _ (by omega)
/-- What a first field's first two letters are is nothing to it. -/
theorem fix_talker (p q : List Nat) (fs : List (List Nat)) (h : kindOfN p = kindOfN q) : fixOf (p :: fs) = fixOf (q :: fs) := by
  unfold fixOf
  simp only [List.getD_cons_zero, List.length_cons, h]
  rw [readOf_tail (fun j => (p :: fs).getD j []) (fun j => (q :: fs).getD j []) _ _ (fun j hj => by
    obtain ⟨i, rfl⟩ : ∃ i, j = i + 1 := ⟨j - 1, by omega⟩
    rfl)]
theorem parts_two (x y : UInt8) (L : List UInt8) (p : List UInt8) (ps : List (List UInt8)) (hL : partsL L = p :: ps) (hx : x ≠ 44) (hy : y ≠ 44) : partsL (x :: y :: L) = (x :: y :: p) :: ps := by
  rw [partsL, if_neg hx, partsL, if_neg hy, hL]
  rfl
theorem parts_long {L p : List UInt8} {ps : List (List UInt8)} (h : partsL L = p :: ps) (hp : 2 ≤ p.length) : ∃ x y L' p', L = x :: y :: L' ∧ p = x :: y :: p' ∧ partsL L' = p' :: ps ∧ x ≠ 44 ∧ y ≠ 44 := by
  cases L with
  | nil => rw [partsL] at h; cases h; simp at hp
  | cons x L =>
    rw [partsL] at h
    by_cases hx : x = 44
    · rw [if_pos hx] at h
      cases h
      simp at hp
    · rw [if_neg hx] at h
      cases L with
      | nil => rw [partsL] at h; cases h; simp at hp
      | cons y L' =>
        rw [partsL] at h
        by_cases hy : y = 44
        · rw [if_pos hy] at h
          cases h
          simp at hp
        · rw [if_neg hy] at h
          obtain ⟨p', ps', e⟩ := partsL_ne L'
          rw [e] at h
          cases h
          exact ⟨x, y, L', p', rfl, rfl, e, hx, hy⟩
theorem kind_two (x y : UInt8) (p : List UInt8) (hx : capital x.toNat = true) (hy : capital y.toNat = true) : kindOfN ((x :: y :: p).map UInt8.toNat) = lettersOf (p.map UInt8.toNat) := by
  unfold kindOfN
  rw [if_neg]
  · rfl
  · rintro (h | h | h)
    · rw [List.length_map, List.length_cons, List.length_cons] at h; omega
    · rw [show wd ((x :: y :: p).map UInt8.toNat) 0 = x.toNat from rfl, hx] at h; cases h
    · rw [show wd ((x :: y :: p).map UInt8.toNat) 1 = y.toNat from rfl, hy] at h; cases h
theorem kind_capital {x y : UInt8} {p : List UInt8} (h : kindOfN ((x :: y :: p).map UInt8.toNat) ≠ 0) : capital x.toNat = true ∧ capital y.toNat = true := by
  unfold kindOfN at h
  split at h
  · exact absurd rfl h
  · rename_i h1
    rw [not_or, not_or] at h1
    exact ⟨by have := h1.2.1; rwa [Bool.not_eq_false] at this, by have := h1.2.2; rwa [Bool.not_eq_false] at this⟩
theorem parse_kind {s : ByteArray} (h : (parseOf s).2 = 0) : kindOfN ((fieldsOf s).getD 0 []) ≠ 0 ∧ leastOf (kindOfN ((fieldsOf s).getD 0 [])) ≤ (fieldsOf s).length - 1 := by
  unfold parseOf fixOf at h
  split at h
  · cases h
  · rename_i h1
    split at h
    · cases h
    · rename_i h2
      exact ⟨h1, by omega⟩
theorem not_comma {x : UInt8} (h : capital x.toNat = true) : x ≠ 44 := by
  intro e
  subst e
  simp [capital] at h
/-- Another talker tells the same. -/
theorem parse_talker (s t : ByteArray) (a b : UInt8) (h : (parseOf s).2 = 0) (ha : capital a.toNat = true) (hb : capital b.toNat = true) (ht : bytesOf t = a :: b :: (bytesOf s).drop 2) : 2 ≤ s.size ∧ parseOf t = parseOf s := by
  obtain ⟨hk, _⟩ := parse_kind h
  obtain ⟨p, ps, e⟩ := partsL_ne (bytesOf s)
  have hf : (fieldsOf s).getD 0 [] = p.map UInt8.toNat := by rw [fields_bytes, e]; rfl
  rw [hf] at hk
  have hp : 2 ≤ p.length := by
    unfold kindOfN at hk
    split at hk
    · exact absurd rfl hk
    · rename_i h1
      rw [not_or] at h1
      have := h1.1
      simpa using this
  obtain ⟨x, y, L', p', e1, rfl, e2, hx, hy⟩ := parts_long e hp
  obtain ⟨cx, cy⟩ := kind_capital hk
  have hs : s.size = (bytesOf s).length := by unfold bytesOf; rw [Array.length_toList]; rfl
  refine ⟨by rw [hs, e1]; simp, ?_⟩
  unfold parseOf
  rw [fields_bytes, fields_bytes, ht, e, e1]
  rw [show (x :: y :: L').drop 2 = L' from rfl, parts_two a b L' p' ps e2 (not_comma ha) (not_comma hb)]
  rw [List.map_cons, List.map_cons]
  exact fix_talker _ _ _ ((kind_two a b p' ha hb).trans (kind_two x y p' cx cy).symm)
theorem parts_commas (k : Nat) : ∀ L : List UInt8, partsL (L ++ List.replicate k 44) = partsL L ++ List.replicate k []
  | [] => by
    rw [List.nil_append]
    induction k with
    | zero => rfl
    | succ k ih =>
      have e : partsL (44 :: List.replicate k 44) = [] :: partsL (List.replicate k 44) := by rw [partsL, if_pos rfl]
      rw [List.replicate_succ, e, ih]
      rfl
  | c :: L => by
    have ih := parts_commas k L
    obtain ⟨p, ps, e⟩ := partsL_ne L
    rw [List.cons_append, partsL, partsL, ih, e]
    split <;> rfl
theorem least_three (k : Nat) (h : k ≠ 0) (h7 : k ≤ 7) : 3 ≤ leastOf k ∧ mostOf k ≤ 20 := by
  rcases (show k = 1 ∨ k = 2 ∨ k = 3 ∨ k = 4 ∨ k = 5 ∨ k = 6 ∨ k = 7 by omega) with rfl | rfl | rfl | rfl | rfl | rfl | rfl <;> decide
/-- Twenty fields more are too many. -/
theorem parse_commas (s t : ByteArray) (h : (parseOf s).2 = 0) (ht : bytesOf t = bytesOf s ++ List.replicate 20 44) : parseOf t = ({}, 3) := by
  obtain ⟨hk, hl⟩ := parse_kind h
  obtain ⟨p, ps, e⟩ := partsL_ne (bytesOf s)
  have e1 : fieldsOf t = fieldsOf s ++ List.replicate 20 [] := by
    rw [fields_bytes, fields_bytes, ht, parts_commas, List.map_append]
    rfl
  have e2 : (fieldsOf t).getD 0 [] = (fieldsOf s).getD 0 [] := by
    rw [e1, fields_bytes, e]
    rfl
  have hpos : 0 < (fieldsOf s).length := by rw [fields_bytes, e]; simp
  have h3 := least_three _ hk (kind_le _)
  have hlen : (fieldsOf t).length = (fieldsOf s).length + 20 := by rw [e1, List.length_append, List.length_replicate]
  unfold parseOf fixOf
  rw [e2, if_neg hk, hlen, if_neg (by omega), if_pos (by omega)]
set_option maxRecDepth 100000 in
set_option maxHeartbeats 2000000 in
theorem eql_fix (F : Told) (w : World) : Sem.run Tryd.prog (binOp .eql 26 (.agg F.cells) (.agg F.cells)) w = .ok (.bool true) w := by
  unfold Told.cells
  go_simp
  done
/-- A struct is loaded whole by an operation that is wanted. -/
theorem wpList_load_want {P : Program} {ops : Array Oper} {rest : List Oper} {o : Oper} {a : Act} {w : World} {Q : Exit → Act → World → Prop} (hw : Region.wanted o (yielded ops a.tmps) = true) (ty : TypeId) (x : Operand) (ho : o.op = .load ty x) (b : Nat) (hx : a.eval x = .pointer (some ⟨b, 0, none⟩)) (C : Array Value) (t : TypeId) (d : TypeDesc) (hc : w.heap[b]? = some (.cells C t (0, 0)))
    (hu : P.underlying ty = some d) (hd : d.isRow = true) (hi : (P.info? ty).map (·.size) = some C.size) (h : wpList P ops Q rest (a.put o.dst (.agg C)) w) : wpList P ops Q (o :: rest) a w := by
  refine wpList_step fun K hK => ?_
  rw [if_pos hw]
  refine wp_load_mid ty x ho b 0 hx C.toList d (fun j v hv => ?_) hu hd (by simpa using hi) (hK _ _ (by simpa using h))
  rw [Nat.zero_add, cell_of_row w b j C t (0, 0) hc]
  simpa using hv
theorem told_zda : (⟨5, true, true, true, false, (12, 35, 19, true), 4, 7, 2002, 0, 0, 0, 0, 0, 0, 0, 0, 0, 0, 0, 0, 0⟩ : Told) = { kind := 5, valid := true, hasTime := true, hasDate := true, time := (12, 35, 19, true), day := 4, month := 7, year := 2002 } := rfl
set_option maxHeartbeats 4000000 in
set_option maxRecDepth 100000 in
theorem known_true10 (w : World) : Calls Tryd.prog 4 #[] w fun e w' => e = .returned (.bool true) ∧ Grew w w' := by
  have H1 := fun w => prog_Parse ⟨#[71, 80, 90, 68, 65, 44, 49, 50, 51, 53, 49, 57, 44, 48, 52, 44, 48, 55, 44, 50, 48, 48, 50, 44, 48, 48, 44, 48, 48]⟩ w (by decide)
  have H2 := fun w => prog_Parse ⟨#[71, 80, 71, 76, 76, 44, 52, 57, 49, 54, 46, 52, 53, 44, 78, 44, 49, 50, 51, 49, 49, 46, 49, 50, 44, 87, 44, 50, 50, 53, 52, 52, 52, 44, 65]⟩ w (by decide)
  have H3 := fun w => prog_Parse ⟨#[71, 80, 90, 68, 65, 44, 50, 52, 54, 48, 48, 48, 44, 48, 52, 44, 48, 55, 44, 50, 48, 48, 50, 44, 48, 48, 44, 48, 48]⟩ w (by decide)
  unfold ParseT at H1 H2 H3
  rw [known_zda] at H1
  rw [known_gll] at H2
  rw [known_bad] at H3
  unfold Told.value at H1 H2 H3
  simp only at H1 H2 H3
  obtain ⟨C1, h1⟩ : ∃ C, Told.cells { kind := 5, valid := true, hasTime := true, hasDate := true, time := (12, 35, 19, true), day := 4, month := 7, year := 2002 } = C := ⟨_, rfl⟩
  obtain ⟨C2, h2⟩ : ∃ C, Told.cells { kind := 3, valid := true, hasTime := true, hasPos := true, time := (22, 54, 44, true), lat := 295645000, lon := -739112000 } = C := ⟨_, rfl⟩
  obtain ⟨Z, hz⟩ : ∃ C, Told.cells {} = C := ⟨_, rfl⟩
  have o1 := Lib.hid (told_one { kind := 5, valid := true, hasTime := true, hasDate := true, time := (12, 35, 19, true), day := 4, month := 7, year := 2002 })
  have o2 := Lib.hid (told_one { kind := 3, valid := true, hasTime := true, hasPos := true, time := (22, 54, 44, true), lat := 295645000, lon := -739112000 })
  have oz := Lib.hid (told_one {})
  have n1 := Lib.hid (told_size { kind := 5, valid := true, hasTime := true, hasDate := true, time := (12, 35, 19, true), day := 4, month := 7, year := 2002 })
  have n2 := Lib.hid (told_size { kind := 3, valid := true, hasTime := true, hasPos := true, time := (22, 54, 44, true), lat := 295645000, lon := -739112000 })
  have nz := Lib.hid (told_size {})
  have HZ := Lib.hid fix_zero.1
  have HI := Lib.hid fix_zero.2
  rw [h1] at H1 o1 n1
  rw [h2] at H2 o2 n2
  rw [hz] at H3 oz nz HZ
  replace H1 := fun w => Lib.hid (H1 w)
  replace H2 := fun w => Lib.hid (H2 w)
  replace H3 := fun w => Lib.hid (H3 w)
  have E1 := Lib.hid h1
  have E2 := Lib.hid h2
  clear h1 h2 hz
  go_enter Tryd.func4, Tryd.ntmps4
  go_upto_region 1 with fail
  go_upto_region 2 with (first | (go_at_call 5; refine (H1 _).out.mono ?_; rintro e w1 ⟨rfl, g1⟩) | (refine wpList_alloc_as rfl 26 rfl Z HZ.out ?_) | (refine wpList_store_new rfl 26 _ _ rfl w1 C1 Z 26 rfl rfl rfl (by rw [HI.out, n1.out]) (by rw [nz.out, n1.out]) o1.out ?_))
  obtain ⟨V1, hV1, k1, s1, c1⟩ := newO w1 (.cells C1 26)
  rw [hV1]
  have G1 := Lib.hid (g1.trans k1)
  have l1 : w1.heap.size < V1.heap.size := by omega
  clear hV1 s1 g1 k1
  go_upto_region 3 with (first | (go_at_call 5; refine (H2 _).out.mono ?_; rintro e w2 ⟨rfl, g2⟩) | (refine wpList_alloc_as rfl 26 rfl Z HZ.out ?_) | (refine wpList_store_new rfl 26 _ _ rfl w2 C2 Z 26 rfl rfl rfl (by rw [HI.out, n2.out]) (by rw [nz.out, n2.out]) o2.out ?_))
  obtain ⟨V2, hV2, k2, s2, c2⟩ := newO w2 (.cells C2 26)
  rw [hV2]
  have c1' := ((g2.trans k2).below.block _ l1).trans c1
  have l1' : w1.heap.size < V2.heap.size := Nat.lt_of_lt_of_le l1 (g2.trans k2).size
  have l2 : w2.heap.size < V2.heap.size := by omega
  have G2 := Lib.hid (G1.out.trans (g2.trans k2))
  clear hV2 s2 g2 k2 c1 l1
  go_upto_region 4 with (first | (go_at_call 5; refine (H3 _).out.mono ?_; rintro e w3 ⟨rfl, g3⟩) | (refine wpList_alloc_as rfl 26 rfl Z HZ.out ?_) | (refine wpList_store_new rfl 26 _ _ rfl w3 Z Z 26 rfl rfl rfl (by rw [HI.out, nz.out]) rfl oz.out ?_))
  obtain ⟨V3, hV3, k3, s3, c3⟩ := newO w3 (.cells Z 26)
  rw [hV3]
  have c1 := ((g3.trans k3).below.block _ l1').trans c1'
  have c2' := ((g3.trans k3).below.block _ l2).trans c2
  have G3 := Lib.hid (G2.out.trans (g3.trans k3))
  rw [← E1.out] at c1
  rw [← E2.out] at c2'
  have x1 : V3.cell? ⟨w1.heap.size, 1, none⟩ = some (.bool true) := by simp [World.cell?, c1]; rfl
  have x5 : V3.cell? ⟨w1.heap.size, 5, none⟩ = some (.int .i64 12) := by simp [World.cell?, c1]; rfl
  have x6 : V3.cell? ⟨w1.heap.size, 6, none⟩ = some (.int .i64 35) := by simp [World.cell?, c1]; rfl
  have x7 : V3.cell? ⟨w1.heap.size, 7, none⟩ = some (.int .i64 19) := by simp [World.cell?, c1]; rfl
  have x8 : V3.cell? ⟨w1.heap.size, 8, none⟩ = some (.bool true) := by simp [World.cell?, c1]; rfl
  have x9 : V3.cell? ⟨w1.heap.size, 9, none⟩ = some (.int .i64 4) := by simp [World.cell?, c1]; rfl
  have x10 : V3.cell? ⟨w1.heap.size, 10, none⟩ = some (.int .i64 7) := by simp [World.cell?, c1]; rfl
  have x11 : V3.cell? ⟨w1.heap.size, 11, none⟩ = some (.int .i64 2002) := by simp [World.cell?, c1]; rfl
  have y1 : V3.cell? ⟨w2.heap.size, 1, none⟩ = some (.bool true) := by simp [World.cell?, c2']; rfl
  have y4 : V3.cell? ⟨w2.heap.size, 4, none⟩ = some (.bool true) := by simp [World.cell?, c2']; rfl
  have y12 : V3.cell? ⟨w2.heap.size, 12, none⟩ = some (.int .i64 295645000) := by simp [World.cell?, c2']; rfl
  have y13 : V3.cell? ⟨w2.heap.size, 13, none⟩ = some (.int .i64 (-739112000)) := by simp [World.cell?, c2']; rfl
  clear hV3 s3 g3 k3 c1 c2' c1' c2 c3 l1' l2 H1 H2 H3 HZ HI
  go_wp2_with fail
  go_ret
  exact ⟨rfl, G3.out⟩
end Go.Proofs.YtajgicliepenkaaDoor
