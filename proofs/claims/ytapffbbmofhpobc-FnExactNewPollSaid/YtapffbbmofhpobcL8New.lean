/-
  Contracts: impl.isAge, spec.l1All; impl.NewPoll, spec.NewPoll: new nodes in new memory.
-/
import Derived.Test.YtapffbbmofhpobcL8Nd
import Derived.Test.YtapffbbmofhpobcL4In
namespace Go.Proofs.Ytapffbbmofhpobc.L8
open Go.RowKit L1 L4
set_option linter.unusedVariables false

set_option maxRecDepth 100000 in
set_option maxHeartbeats 400000 in
theorem isAge_any (x : Int) (w : World) (b : Bool) (hb : b = true ↔ 0 ≤ x ∧ x ≤ 9) :
    Calls Try.prog 39 #[.int .i64 x] w fun e w' => e = .returned (.bool b) ∧ w = w' := by
  by_cases h1 : 0 ≤ x
  · by_cases h2 : x ≤ 9
    · obtain rfl : b = true := hb.2 ⟨h1, h2⟩
      clear hb
      go_enter Try.func39, Try.ntmps39
      go_wp2
      go_ret
      exact ⟨rfl, rfl⟩
    · obtain rfl : b = false := bool_noT hb (fun h => h2 h.2)
      clear hb
      go_enter Try.func39, Try.ntmps39
      go_wp2
      go_ret
      exact ⟨rfl, rfl⟩
  · obtain rfl : b = false := bool_noT hb (fun h => h1 h.1)
    clear hb
    go_enter Try.func39, Try.ntmps39
    go_wp2
    go_ret
    exact ⟨rfl, rfl⟩

set_option maxRecDepth 100000 in
set_option maxHeartbeats 1000000 in
theorem l1All_any (a : Option Addr) (xs : List Int) (n cap : Nat) (lo hi : Int) (w : World) (hn : xs.length = n) (hs : Sl w a xs) (hn2 : n ≤ 1048576) (bb : Bool) (hbb : bb = true ↔ ∀ j, j < n → lo ≤ xs.getD j 0 ∧ xs.getD j 0 ≤ hi) :
    Calls Try.prog 38 #[.slice a n cap, .int .i64 lo, .int .i64 hi] w fun e w' => e = .returned (.bool bb) ∧ w = w' := by
  have HS := hide hs
  have HN := hide hn
  have HBB := hide hbb
  clear hs hn hbb
  go_enter Try.func38, Try.ntmps38
  go_wp2
  go_loop [11] (fun i => ∃ k : Nat, k ≤ n ∧ i = .int .i64 k ∧ Hid (∀ j, j < k → lo ≤ xs.getD j 0 ∧ xs.getD j 0 ≤ hi)) (fun i => n - (intOf i).toNat)
  case atStart => exact ⟨0, Nat.zero_le _, rfl, fun j hj => absurd hj (Nat.not_lt_zero _)⟩
  case round =>
    obtain ⟨k, hk, rfl, HJ⟩ := hrel
    by_cases hlt : k < n
    · obtain ⟨b, off, rfl, hc⟩ := HS.out k (by rw [HN.out]; exact hlt)
      have hltI : (k : Int) < (n : Int) := by omega
      obtain ⟨x, hx⟩ : ∃ x, x = xs.getD k 0 := ⟨_, rfl⟩
      rw [← hx] at hc
      have HX := hide hx.symm
      clear hx
      by_cases hle : lo ≤ x ∧ x ≤ hi
      · have C := hide (fun w => l1In_any x lo hi w true (by simp [hle]))
        have HLE := hide hle
        clear hle
        go_wp2_with fail
        refine (C.out _).mono ?_
        rintro e w1 ⟨rfl, rfl⟩
        go_wp2
        go_round
        case rel =>
          refine ⟨k + 1, by omega, by go_num, ?_⟩
          intro j hj
          by_cases e : j = k
          · subst e; rw [HX.out]; exact HLE.out
          · exact HJ.out j (by omega)
        case measure => simp [intOf]; omega
      · have C := hide (fun w => l1In_any x lo hi w false (by simp only [Bool.false_eq_true, false_iff]; exact hle))
        have HM : Hid (bb = false) := hide (bool_noT HBB.out (fun h => hle (by have := h k hlt; rw [HX.out] at this; exact this)))
        clear hle
        go_wp2_with fail
        refine (C.out _).mono ?_
        rintro e w1 ⟨rfl, rfl⟩
        go_wp2
        go_ret
        exact ⟨by rw [HM.out]; rfl, rfl⟩
    · have hltI : ¬ (k : Int) < (n : Int) := by omega
      have HM := hide (HBB.out.2 (fun j hj => HJ.out j (by omega)))
      go_wp2
      go_ret
      exact ⟨by rw [HM.out]; rfl, rfl⟩

/-- Ages that a poll can be made of. -/
def Ages (xs : List Int) : Prop := 1 ≤ xs.length ∧ xs.length ≤ 5 ∧ ∀ j, j < xs.length → 0 ≤ xs.getD j 0 ∧ xs.getD j 0 ≤ 9
/-- New nodes. -/
def newM (xs : List Int) : List NV := xs.map fun a => (⟨0, -1, a, [], 0⟩, .slice none 0 0)
theorem newM_len (xs : List Int) : (newM xs).length = xs.length := by simp [newM]
theorem newM_get (xs : List Int) (i : Nat) (h : i < xs.length) : (newM xs).getD i eNV = (⟨0, -1, xs.getD i 0, [], 0⟩, .slice none 0 0) := by simp [newM, List.getD, h]
theorem own_newM {w : World} {base n : Nat} {v : Value} {xs : List Int} (hl : xs.length = n) (h : w.ownsRow base 70 5 v n (flatN (newM xs))) : OwN w base v n (newM xs) := by
  refine ⟨by rw [newM_len, hl], h, fun i hi => by rw [newM_get xs i (by omega)]; exact World.ownsRow_nil _ _ _ _, fun i j _ hj g e => ?_⟩
  rw [newM_get xs i (by omega)] at e
  simp [Value.ownBlock] at e
theorem newM_snoc (xs : List Int) (k : Nat) (h : k < xs.length) : newM (xs.take (k + 1)) = newM (xs.take k) ++ [(⟨0, -1, xs.getD k 0, [], 0⟩, .slice none 0 0)] := by
  have e : xs.take (k + 1) = xs.take k ++ [xs.getD k 0] := by rw [List.take_add_one, List.getElem?_eq_getElem h]; simp [List.getD, List.getElem?_eq_getElem h]
  unfold newM
  rw [e, List.map_append]
  rfl
theorem new_one (x : Int) : ∀ u ∈ [Value.int .i64 0, .int .i64 (-1), .int .i64 x, .slice none 0 0, .int .i64 0], u.oneCell' = true := by
  intro u hu
  simp only [List.mem_cons, List.not_mem_nil, or_false] at hu
  rcases hu with rfl | rfl | rfl | rfl | rfl <;> rfl
theorem blkP {w : World} {g : Nat} {a b c : Value} {t : TypeId} (h : w.heap[g]? = some (.cells #[a, b, c] t (0, 0))) :
    w.cell? ⟨g, 0, none⟩ = some a ∧ w.cell? ⟨g, 1, none⟩ = some b ∧ w.cell? ⟨g, 2, none⟩ = some c ∧ w.frozen? ⟨g, 0, none⟩ = false ∧ w.frozen? ⟨g, 1, none⟩ = false ∧ w.frozen? ⟨g, 2, none⟩ = false := by
  simp [World.cell?, World.frozen?, h]
theorem blk_second (w : World) (x y : Obj) : ((w.alloc x).alloc y).heap[w.heap.size + 1]? = some y := by
  have := blk_new (w.alloc x) y
  rw [World.size_alloc] at this
  exact this
theorem blk_first (w : World) (x y : Obj) : ((w.alloc x).alloc y).heap[w.heap.size]? = some x :=
  (((Below.refl (w.alloc x).heap.size _).alloc (Nat.le_refl _) _).block w.heap.size (by simp)).trans (blk_new _ _)
theorem cell_five_new (w : World) (a b c d e : Value) (t : TypeId) : ∀ j u, [a, b, c, d, e][j]? = some u → (w.alloc (.cells #[a, b, c, d, e] t)).cell? ((⟨w.heap.size, 0, none⟩ : Addr).add j) = some u := by
  intro j u h
  rw [addr_add]
  have hb : (w.alloc (.cells #[a, b, c, d, e] t)).heap[w.heap.size]? = some (.cells #[a, b, c, d, e] t) := blk_new _ _
  have : j < 5 := by
    by_cases hj : j < 5
    · exact hj
    · rw [List.getElem?_eq_none (by simp; omega)] at h; cases h
  simp only [World.cell?, hb]
  match j, this with
  | 0, _ => simpa using h
  | 1, _ => simpa using h
  | 2, _ => simpa using h
  | 3, _ => simpa using h
  | 4, _ => simpa using h
/-- A poll of new nodes alone, in new memory. -/
def RetP (w : World) (M : List NV) (ok : Bool) (e : Ending) (w' : World) : Prop :=
  ∃ v, e = .returned (.tuple #[.agg #[v, .slice none 0 0, .slice none 0 0], .bool ok]) ∧ OwN w' w.heap.size v M.length M ∧ Below w.heap.size w w'
theorem retP_none {w w' : World} (hb : Below w.heap.size w w') : RetP w [] false (.returned (.tuple #[.agg #[.slice none 0 0, .slice none 0 0, .slice none 0 0], .bool false])) w' :=
  ⟨_, rfl, ⟨rfl, World.ownsRow_nil _ _ _ _, fun i hi => absurd hi (Nat.not_lt_zero _), fun i j _ hj => absurd hj (Nat.not_lt_zero _)⟩, hb⟩

/-- Where the making of a poll stands. -/
structure NewAt (w : World) (xs : List Int) (k : Nat) (wr : World) : Prop where
  ex : ∃ va vc, wr.ownsRow (w.heap.size + 2) 70 5 (.slice va k vc) k (flatN (newM (xs.take k))) ∧ wr.heap[w.heap.size + 1]? = some (.cells #[.slice va k vc, .slice none 0 0, .slice none 0 0] 27 (0, 0))
  bel : Below w.heap.size w wr
  res : wr.heap[w.heap.size]? = some (.cells #[.slice none 0 0, .slice none 0 0, .slice none 0 0] 27 (0, 0))
theorem NewAt.parts {w : World} {xs : List Int} {k : Nat} {wr : World} (h : NewAt w xs k wr) : ∃ va vc, wr.ownsRow (w.heap.size + 2) 70 5 (.slice va k vc) k (flatN (newM (xs.take k))) ∧ Below w.heap.size w wr ∧ wr.heap[w.heap.size]? = some (.cells #[.slice none 0 0, .slice none 0 0, .slice none 0 0] 27 (0, 0)) ∧ wr.heap[w.heap.size + 1]? = some (.cells #[.slice va k vc, .slice none 0 0, .slice none 0 0] 27 (0, 0)) := by
  obtain ⟨va, vc, h1, h2⟩ := h.ex
  exact ⟨va, vc, h1, h.bel, h.res, h2⟩
theorem NewAt.sz {w : World} {xs : List Int} {k : Nat} {wr : World} (h : NewAt w xs k wr) : w.heap.size + 2 ≤ wr.heap.size := by
  obtain ⟨va, vc, h1, h2⟩ := h.ex
  exact (Array.getElem?_eq_some_iff.1 h2).1
theorem newAt_start (w : World) (xs : List Int) : NewAt w xs 0 ((w.alloc (.cells #[.slice none 0 0, .slice none 0 0, .slice none 0 0] 27 (0, 0))).alloc (.cells #[.slice none 0 0, .slice none 0 0, .slice none 0 0] 27 (0, 0))) :=
  ⟨⟨none, 0, World.ownsRow_nil _ _ _ _, blk_second _ _ _⟩, ((Below.refl _ _).alloc (Nat.le_refl _) _).alloc (by simp) _, blk_first _ _ _⟩
theorem newAt_step {w wr w6 : World} {xs : List Int} {k : Nat} {x : Int} {va : Option Addr} {vc : Nat} {v6 : Value} (ho : wr.ownsRow (w.heap.size + 2) 70 5 (.slice va k vc) k (flatN (newM (xs.take k)))) (hb : Below w.heap.size w wr) (hr : wr.heap[w.heap.size]? = some (.cells #[.slice none 0 0, .slice none 0 0, .slice none 0 0] 27 (0, 0))) (hv : wr.heap[w.heap.size + 1]? = some (.cells #[.slice va k vc, .slice none 0 0, .slice none 0 0] 27 (0, 0))) (hsz : w.heap.size + 2 ≤ wr.heap.size) (hsn : newM (xs.take (k + 1)) = newM (xs.take k) ++ [(⟨0, -1, x, [], 0⟩, .slice none 0 0)]) {o : Obj}
    (hown : w6.ownsRow (w.heap.size + 2) 70 5 v6 (k + 1) (flatN (newM (xs.take k)) ++ [.int .i64 0, .int .i64 (-1), .int .i64 x, .slice none 0 0, .int .i64 0])) (hg : (wr.alloc o).grownBy w6 (Value.slice va k vc).ownBlock) :
    (w6.cell? ⟨w.heap.size + 1, 0, none⟩ = some (.slice va k vc) ∧ w6.frozen? ⟨w.heap.size + 1, 0, none⟩ = false) ∧ NewAt w xs (k + 1) (w6.setCell ⟨w.heap.size + 1, 0, none⟩ v6) := by
  have ne : ∀ b, b < w.heap.size + 2 → some b ≠ (Value.slice va k vc).ownBlock := fun b hb' e => by
    have := (own_lt ho b e.symm).1
    omega
  have al := (Below.refl wr.heap.size wr).alloc (Nat.le_refl _) o
  have hv6 := ((hg.block (w.heap.size + 1) (by simp; omega) (ne _ (by omega))).trans (al.block _ (by omega))).trans hv
  have hr6 := ((hg.block w.heap.size (by simp; omega) (ne _ (by omega))).trans (al.block _ (by omega))).trans hr
  obtain ⟨y0, _, _, y3, _, _⟩ := blkP hv6
  refine ⟨⟨y0, y3⟩, ?_⟩
  obtain ⟨a6, c6, rfl⟩ := own_shapeT hown
  refine ⟨⟨a6, c6, ?_, ?_⟩, ?_, ?_⟩
  · refine own_setC ?_ _ _ (by show w.heap.size + 1 < _; omega)
    rw [hsn]
    show w6.ownsRow _ _ _ _ _ (List.flatMap cN _)
    rw [List.flatMap_append]
    exact hown
  · have := heap_setCell_same w6 (w.heap.size + 1) 0 _ _ (.slice a6 (k + 1) c6) hv6
    simpa using this
  · have hb6 : Below w.heap.size w w6 := ((hb.trans ((Below.refl wr.heap.size wr).alloc (Nat.le_refl _) o |>.mono hb.size))).grown hg (by simp; omega) (fun g e => by have := (own_lt ho g e).1; omega)
    exact hb6.setCell (p := ⟨w.heap.size + 1, 0, none⟩) (Nat.le_succ _) _
  · rw [Below.heap_setCell _ _ _ _ (by show w.heap.size ≠ w.heap.size + 1; omega)]
    exact hr6

set_option maxRecDepth 100000 in
set_option maxHeartbeats 4000000 in
theorem newPoll_any (a : Option Addr) (xs : List Int) (n cap : Nat) (w : World) (hn : xs.length = n) (hs : Sl w a xs) (hn2 : n ≤ 1048576) (M : List NV) (ok : Bool) (hM : Ages xs → M = newM xs ∧ ok = true) (hM0 : ¬ Ages xs → M = [] ∧ ok = false) :
    Calls Try.prog 11 #[.slice a n cap] w (RetP w M ok) := by
  obtain ⟨i1, hi1, hy0, hy1, hy2⟩ := info_parts info_node
  have ZP := blkP (blk_new w (.cells #[.slice none 0 0, .slice none 0 0, .slice none 0 0] 27 (0, 0)))
  have ZB := hide ((Below.refl w.heap.size w).alloc (Nat.le_refl _) (.cells #[.slice none 0 0, .slice none 0 0, .slice none 0 0] 27 (0, 0)))
  by_cases h1 : (n : Int) < 1
  · obtain ⟨rfl, rfl⟩ := hM0 (fun h => by have := h.1; omega)
    clear hs hn hM hM0
    obtain ⟨z0, z1, z2, z3, z4, z5⟩ := ZP
    go_enter Try.func11, Try.ntmps11
    go_wp2
    refine bodyPost_ret (v := .tuple #[.agg #[.slice none 0 0, .slice none 0 0, .slice none 0 0], .bool false]) (by simp [results, Try.f11, go_sem, z0, z1, z2]) rfl (retP_none ?_)
    first | exact ZB.out | exact (((ZB.out.setCell (p := ⟨_, _, none⟩) (Nat.le_refl _) _).setCell (p := ⟨_, _, none⟩) (Nat.le_refl _) _).setCell (p := ⟨_, _, none⟩) (Nat.le_refl _) _)
  by_cases h2 : 5 < (n : Int)
  · obtain ⟨rfl, rfl⟩ := hM0 (fun h => by have := h.2.1; omega)
    clear hs hn hM hM0
    obtain ⟨z0, z1, z2, z3, z4, z5⟩ := ZP
    go_enter Try.func11, Try.ntmps11
    go_wp2
    refine bodyPost_ret (v := .tuple #[.agg #[.slice none 0 0, .slice none 0 0, .slice none 0 0], .bool false]) (by simp [results, Try.f11, go_sem, z0, z1, z2]) rfl (retP_none ?_)
    first | exact ZB.out | exact (((ZB.out.setCell (p := ⟨_, _, none⟩) (Nat.le_refl _) _).setCell (p := ⟨_, _, none⟩) (Nat.le_refl _) _).setCell (p := ⟨_, _, none⟩) (Nat.le_refl _) _)
  have HS := hide hs
  have HN := hide hn
  have HM := hide hM
  have HM0 := hide hM0
  clear hs hn hM hM0 ZP ZB
  go_enter Try.func11, Try.ntmps11
  go_wp2
  go_loopw [18] (fun i wr => ∃ k : Nat, k ≤ n ∧ i = .int .i64 k ∧ NewAt w xs k wr ∧ Hid (∀ j, j < k → 0 ≤ xs.getD j 0 ∧ xs.getD j 0 ≤ 9)) (fun i _ => n - (intOf i).toNat)
  case atStart => exact ⟨0, Nat.zero_le _, rfl, newAt_start w xs, fun j hj => absurd hj (Nat.not_lt_zero _)⟩
  case round =>
    obtain ⟨k, hk, rfl, hat, HJ⟩ := hrel
    obtain ⟨va, vc, hown, hbel, hres, hvar⟩ := hat.parts
    obtain ⟨z0, z1, z2, z3, z4, z5⟩ := blkP hres
    obtain ⟨y0, y1, y2, y3, y4, y5⟩ := blkP hvar
    by_cases hlt : k < n
    · obtain ⟨b, off, rfl, hc0⟩ := HS.out k (by rw [HN.out]; exact hlt)
      have hc := (hbel.cell (p := ⟨b, off + k, none⟩) (blk_lt hc0)).trans hc0
      have hltI : (k : Int) < (n : Int) := by omega
      have hsn := newM_snoc xs k (by rw [HN.out]; exact hlt)
      obtain ⟨x, hx⟩ : ∃ x, x = xs.getD k 0 := ⟨_, rfl⟩
      rw [← hx] at hc hsn
      have HX := hide hx.symm
      have HSN := hide hsn
      have HO := hide hown
      have HB := hide hbel
      have HV := hide hvar
      have HR := hide hres
      have hsz : w.heap.size + 2 ≤ wr.heap.size := hat.sz
      clear hx hc0 hsn hown hbel hat hvar hres
      by_cases hag : 0 ≤ x ∧ x ≤ 9
      · have CA := hide (fun w => isAge_any x w true (by simp [hag]))
        have HAG := hide hag
        clear hag
        go_wp2_with fail
        refine (CA.out _).mono ?_
        rintro e w1 ⟨rfl, rfl⟩
        go_wp2_with (first
          | (at_builtin; refine wpList_append_own _ rfl _ _ 23 rfl (w.heap.size + 2) 70 i1 (.agg #[.int .i64 0, .int .i64 0, .int .i64 0, .slice none 0 0, .int .i64 0]) 5 56 Try.underlying23 hi1 hy0 hy1 hy2 rfl (by decide) _ _ _ rfl (HO.out.alloc _) ⟨wr.heap.size, 0, none⟩ 1 1 [.int .i64 0, .int .i64 (-1), .int .i64 x, .slice none 0 0, .int .i64 0] rfl rfl (cell_five_new _ _ _ _ _ _ _) (new_one x) (by unfold maxLen; omega) (by omega) (by simp; omega) ?_)
          | go_in)
        intro v6 w6 hown6 hgrow6 _
        obtain ⟨a6, c6, rfl⟩ := own_shapeT hown6
        have R := newAt_step HO.out HB.out HR.out HV.out hsz HSN.out hown6 hgrow6
        obtain ⟨⟨q0, q1⟩, R2⟩ := R
        have HR2 := hide R2
        clear hown6 hgrow6 R2
        go_wp2
        go_roundw
        case rel =>
          refine ⟨k + 1, by omega, by go_num, HR2.out, ?_⟩
          intro j hj
          by_cases e : j = k
          · subst e; rw [HX.out]; exact HAG.out
          · exact HJ.out j (by omega)
        case measure => simp [intOf]; omega
      · have CA := hide (fun w => isAge_any x w false (by simp only [Bool.false_eq_true, false_iff]; exact hag))
        obtain ⟨rfl, rfl⟩ := HM0.out (fun h => hag (by have := h.2.2 k (by rw [HN.out]; exact hlt); rw [HX.out] at this; exact this))
        clear hag HM HM0
        go_wp2_with fail
        refine (CA.out _).mono ?_
        rintro e w1 ⟨rfl, rfl⟩
        go_wp2
        refine bodyPost_ret (v := .tuple #[.agg #[.slice none 0 0, .slice none 0 0, .slice none 0 0], .bool false]) (by simp [results, Try.f11, go_sem, z0, z1, z2]) rfl (retP_none ?_)
        first | exact HB.out | exact (((HB.out.setCell (p := ⟨_, _, none⟩) (Nat.le_refl _) _).setCell (p := ⟨_, _, none⟩) (Nat.le_refl _) _).setCell (p := ⟨_, _, none⟩) (Nat.le_refl _) _)
    · obtain rfl : k = n := by omega
      have hltI : ¬ (k : Int) < (k : Int) := by omega
      obtain ⟨rfl, rfl⟩ := HM.out ⟨by rw [HN.out]; omega, by rw [HN.out]; omega, fun j hj => HJ.out j (by rw [HN.out] at hj; exact hj)⟩
      have e1 : xs.take k = xs := List.take_of_length_le (by rw [HN.out]; exact Nat.le_refl _)
      rw [e1] at hown
      have HO := hide (own_newM HN.out hown)
      have HB := hide hbel
      clear hown hbel e1 hat hvar hres HM HM0
      go_wp2
      refine bodyPost_ret (v := .tuple #[.agg #[.slice va k vc, .slice none 0 0, .slice none 0 0], .bool true]) (by simp [results, Try.f11, go_sem, z0, z1, z2]) rfl ⟨_, rfl, ?_, ?_⟩
      · rw [newM_len, HN.out]
        have z : w.heap.size < w.heap.size + 2 := by omega
        exact ((((HO.out.setC ⟨_, _, none⟩ _ z).setC ⟨_, _, none⟩ _ z).setC ⟨_, _, none⟩ _ z)).base (by omega)
      · exact (((HB.out.setCell (p := ⟨_, _, none⟩) (Nat.le_refl _) _).setCell (p := ⟨_, _, none⟩) (Nat.le_refl _) _).setCell (p := ⟨_, _, none⟩) (Nat.le_refl _) _)
end Go.Proofs.Ytapffbbmofhpobc.L8
