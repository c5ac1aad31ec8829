/-
  Contracts: impl.NewRepl, spec.NewRepl: a new world of logs in new memory.
-/
import Derived.Test.YtbcljhafdpnjbbdL9Rep
import Derived.Test.YtbcljhafdpnjbbdL8Gen
import Derived.Test.YtbcljhafdpnjbbdL7In
import Derived.Laws.MakeOwn
import Derived.Maps.AppendAt
import Derived.Deep.RegionWith
import Derived.Deep.DeepCutAuto
namespace Go.Proofs.Ytbcljhafdpnjbbd.L9
open Go.RowKit L1 L7
set_option linter.unusedVariables false

abbrev zR : Obj := .cells #[.slice none 0 0, .slice none 0 0, .int .i64 0, .int .i64 0, .slice none 0 0, .slice none 0 0] 32 (0, 0)
abbrev oA (n : Nat) : Obj := .cells (madeCells (Value.slice none 0 0).cells (n * 1)) 30 (0, 0)
abbrev oB (n : Nat) : Obj := .cells (madeCells (Value.bool false).cells (n * 1)) 4 (0, 0)
theorem mk_logs (n : Nat) (h : n ≤ 5) : ∃ OA : Obj, OA = oA n ∧ ∀ w, (Instr.makeSlice 28 (.int .i64 (n : Int)) (.int .i64 (n : Int))).run Try.prog w = .ok (.slice (some ⟨w.heap.size, 0, none⟩) n n) (w.alloc OA) := by
  obtain ⟨i0, hi, hz0, hz1, hz2⟩ := info_parts info_entsG
  refine ⟨_, rfl, fun w => ?_⟩
  have hr := run_make (P := Try.prog) w 28 30 i0 (.slice none 0 0) Try.underlying28 hi hz0 .i64 .i64 (n : Int) (n : Int) (by omega) (Int.le_refl _) (by rw [hz2]; omega) (by omega)
  simp only [Int.toNat_natCast, hz1] at hr
  exact hr
theorem mk_bools (n : Nat) (h : n ≤ 5) : ∃ OB : Obj, OB = oB n ∧ ∀ w, (Instr.makeSlice 29 (.int .i64 (n : Int)) (.int .i64 (n : Int))).run Try.prog w = .ok (.slice (some ⟨w.heap.size, 0, none⟩) n n) (w.alloc OB) := by
  obtain ⟨i0, hi, hz0, hz1, hz2⟩ := info_parts info_bool
  refine ⟨_, rfl, fun w => ?_⟩
  have hr := run_make (P := Try.prog) w 29 4 i0 (.bool false) Try.underlying29 hi hz0 .i64 .i64 (n : Int) (n : Int) (by omega) (Int.le_refl _) (by rw [hz2]; omega) (by omega)
  simp only [Int.toNat_natCast, hz1] at hr
  exact hr
/-- The first numbers. -/
def upI (k : Nat) : List Int := (List.range k).map fun j : Nat => (j : Int)
theorem upI_len (k : Nat) : (upI k).length = k := by simp [upI]
theorem upI_snoc (k : Nat) : upI (k + 1) = upI k ++ [(k : Int)] := by simp [upI, List.range_succ]
/-- Where the making of a world stands. -/
structure NR (w : World) (n X ga gd : Nat) (ay : Option Addr) (k cy : Nat) (wx : World) : Prop where
  res : wx.heap[w.heap.size]? = some zR
  box : wx.heap[X]? = some (.cells #[.slice (some ⟨ga, 0, none⟩) n n, .slice (some ⟨gd, 0, none⟩) n n, .int .i64 0, .int .i64 1, .slice ay k cy, .slice none 0 0] 32 (0, 0))
  lg : wx.heap[ga]? = some (oA n)
  dw : wx.heap[gd]? = some (oB n)
  sy : wx.ownsRow (w.heap.size + 1) 3 1 (.slice ay k cy) k ((upI k).map (Value.int .i64))
  bel : Below w.heap.size w wx
  ltX : w.heap.size < X
  ltA : w.heap.size < ga
  ltD : w.heap.size < gd
theorem row_ty {w : World} {base n c : Nat} {t : TypeId} {v : Value} {ys : List Value} (h : w.ownsRow base t c v n ys) (b : Nat) (hb : v.ownBlock = some b) : ∃ cur, w.heap[b]? = some (.cells cur t (0, 0)) := by
  rcases h.2 with ⟨rfl, _⟩ | ⟨g, cap, cur, rfl, hbg, hg, _⟩
  · simp [Value.ownBlock] at hb
  · simp [Value.ownBlock] at hb
    subst hb
    exact ⟨cur, hg⟩
theorem ty1 : 3 ≠ 32 := by decide
theorem ty2 : 3 ≠ 30 := by decide
theorem ty3 : 3 ≠ 4 := by decide
theorem ty4 : 32 ≠ 30 := by decide
theorem ty5 : 32 ≠ 4 := by decide
theorem not_own {w : World} {base n c b : Nat} {t u : TypeId} {v : Value} {ys : List Value} {cur : Array Value} (h : w.ownsRow base t c v n ys) (hb : w.heap[b]? = some (.cells cur u (0, 0))) (ht : t ≠ u) : some b ≠ v.ownBlock := fun e => by
  obtain ⟨cu, hc⟩ := row_ty h b e.symm
  rw [hb] at hc
  simp at hc
  exact ht hc.2.symm
theorem ne_ty {w : World} {a b : Nat} {t u : TypeId} {cur cu : Array Value} (ha : w.heap[a]? = some (.cells cur t (0, 0))) (hb : w.heap[b]? = some (.cells cu u (0, 0))) (ht : t ≠ u) : b ≠ a := fun e => by
  rw [e, ha] at hb
  simp at hb
  exact ht hb.2
theorem own_setB9 {w : World} {base n c b i : Nat} {t u : TypeId} {v : Value} {ys : List Value} {cur : Array Value} {x : Value} (h : w.ownsRow base t c v n ys) (hb : w.heap[b]? = some (.cells cur u (0, 0))) (htu : t ≠ u) : (w.setCell ⟨b, i, none⟩ x).ownsRow base t c v n ys := by
  refine ⟨h.1, ?_⟩
  rcases h.2 with h0 | ⟨g, cap, cu, rfl, hbg, hg, r⟩
  · exact .inl h0
  · refine .inr ⟨g, cap, cu, rfl, hbg, ?_, r⟩
    rw [Below.heap_setCell _ _ _ _ (ne_ty hb hg (Ne.symm htu))]
    exact hg
theorem NR.step {w wr w6 : World} {n X ga gd k cy c6 : Nat} {ay a6 : Option Addr} {o : Obj} (h : NR w n X ga gd ay k cy wr) (hown : w6.ownsRow (w.heap.size + 1) 3 1 (.slice a6 (k + 1) c6) (k + 1) ((upI k).map (Value.int .i64) ++ [.int .i64 (k : Int)])) (hg : (wr.alloc o).grownBy w6 (Value.slice ay k cy).ownBlock) :
    (w6.cell? ⟨X, 4, none⟩ = some (.slice ay k cy) ∧ w6.frozen? ⟨X, 4, none⟩ = false) ∧ NR w n X ga gd a6 (k + 1) c6 (w6.setCell ⟨X, 4, none⟩ (.slice a6 (k + 1) c6)) := by
  have al := (Below.refl wr.heap.size wr).alloc (Nat.le_refl _) o
  have st : ∀ b ob, wr.heap[b]? = some ob → some b ≠ (Value.slice ay k cy).ownBlock → w6.heap[b]? = some ob := fun b ob hb hne =>
    ((hg.block b (by have := (Array.getElem?_eq_some_iff.1 hb).1; simp; omega) hne).trans (al.block b (Array.getElem?_eq_some_iff.1 hb).1)).trans hb
  have bx := st _ _ h.box (not_own h.sy h.box ty1)
  have rs := st _ _ h.res (not_own h.sy h.res ty1)
  have lg := st _ _ h.lg (not_own h.sy h.lg ty2)
  have dw := st _ _ h.dw (not_own h.sy h.dw ty3)
  have bl : Below w.heap.size w w6 := (h.bel.trans (al.mono h.bel.size)).grown hg (by have := h.bel.size; simp; omega) (fun g hgb => by have := (L8.own_lt h.sy g hgb).1; omega)
  refine ⟨⟨(blk6 bx).2.2.2.2.1, by simp [World.frozen?, bx]⟩, ⟨?_, ?_, ?_, ?_, ?_, bl.setCell (p := ⟨X, 4, none⟩) (Nat.le_of_lt h.ltX) _, h.ltX, h.ltA, h.ltD⟩⟩
  · rw [Below.heap_setCell _ _ _ _ (by show w.heap.size ≠ X; have := h.ltX; omega)]
    exact rs
  · exact (heap_setCell_same _ X 4 _ _ (.slice a6 (k + 1) c6) bx).trans rfl
  · rw [Below.heap_setCell _ _ _ _ (ne_ty bx lg ty4)]
    exact lg
  · rw [Below.heap_setCell _ _ _ _ (ne_ty bx dw ty5)]
    exact dw
  · rw [upI_snoc, List.map_append]
    exact own_setB9 hown bx ty1
/-- A world of logs that a call hands back, all logs and what is certain nil, in new memory. -/
structure OwR (w : World) (base : Nat) (vg vd vy : Value) (m : Nat) (dn : List Bool) (sy : List Int) : Prop where
  g : w.ownsRow base 30 1 vg m (List.replicate m (.slice none 0 0))
  d : w.ownsRow base 4 1 vd m (dn.map Value.bool)
  y : w.ownsRow base 3 1 vy m (sy.map (Value.int .i64))
def RetN (w : World) (m : Nat) (ep : Int) (ok : Bool) (e : Ending) (w' : World) : Prop :=
  ∃ ag cg ad cd ay cy, e = .returned (.tuple #[rpV ag m cg ad m cd 0 ep ay m cy none 0 0, .bool ok]) ∧ OwR w' w.heap.size (.slice ag m cg) (.slice ad m cd) (.slice ay m cy) m (List.replicate m false) (upI m) ∧ Below w.heap.size w w'
theorem retN_none {w w' : World} (hb : Below w.heap.size w w') : RetN w 0 0 false (.returned (.tuple #[rpV none 0 0 none 0 0 0 0 none 0 0 none 0 0, .bool false])) w' :=
  ⟨_, _, _, _, _, _, rfl, ⟨World.ownsRow_nil _ _ _ _, World.ownsRow_nil _ _ _ _, World.ownsRow_nil _ _ _ _⟩, hb⟩
theorem own_made {w : World} {base g n : Nat} {z : Value} {t : TypeId} (hz : z.cells = #[z]) (h : w.heap[g]? = some (.cells (madeCells z.cells (n * 1)) t (0, 0))) (hb : base ≤ g) (hn : n ≤ maxLen) : w.ownsRow base t 1 (.slice (some ⟨g, 0, none⟩) n n) n (List.replicate n z) := by
  have e : (madeCells z.cells (n * 1)).toList = List.replicate n z := by
    rw [hz, Nat.mul_one, toList_madeCells_one]
  have e2 : (madeCells z.cells (n * 1)).size = n * 1 := size_madeCells _ _
  exact ⟨by simp, .inr ⟨g, n, _, rfl, hb, h, Nat.le_refl _, hn, e2, by rw [e]; simp⟩⟩
theorem NR.out {w wx : World} {n X ga gd cy : Nat} {ay : Option Addr} (h : NR w n X ga gd ay n cy wx) (hn : n ≤ 5) (v0 v1 v2 v3 v4 v5 : Value) : RetN w n 1 true (.returned (.tuple #[rpV (some ⟨ga, 0, none⟩) n n (some ⟨gd, 0, none⟩) n n 0 1 ay n cy none 0 0, .bool true])) ((((((wx.setCell ⟨w.heap.size, 0, none⟩ v0).setCell ⟨w.heap.size, 1, none⟩ v1).setCell ⟨w.heap.size, 2, none⟩ v2).setCell ⟨w.heap.size, 3, none⟩ v3).setCell ⟨w.heap.size, 4, none⟩ v4).setCell ⟨w.heap.size, 5, none⟩ v5) := by
  have k : ∀ {t : TypeId} {c m : Nat} {v : Value} {ys : List Value}, wx.ownsRow (w.heap.size + 1) t c v m ys → ((((((wx.setCell ⟨w.heap.size, 0, none⟩ v0).setCell ⟨w.heap.size, 1, none⟩ v1).setCell ⟨w.heap.size, 2, none⟩ v2).setCell ⟨w.heap.size, 3, none⟩ v3).setCell ⟨w.heap.size, 4, none⟩ v4).setCell ⟨w.heap.size, 5, none⟩ v5).ownsRow w.heap.size t c v m ys := fun h =>
    own_baseT (own_set9 (own_set9 (own_set9 (own_set9 (own_set9 (own_set9 h _ _ (Nat.lt_succ_self _)) _ _ (Nat.lt_succ_self _)) _ _ (Nat.lt_succ_self _)) _ _ (Nat.lt_succ_self _)) _ _ (Nat.lt_succ_self _)) _ _ (Nat.lt_succ_self _)) (Nat.le_succ _)
  refine ⟨_, _, _, _, _, _, rfl, ⟨k (own_made rfl h.lg h.ltA (by unfold maxLen; omega)), ?_, k h.sy⟩, (((((h.bel.setCell (p := ⟨_, _, none⟩) (Nat.le_refl _) _).setCell (p := ⟨_, _, none⟩) (Nat.le_refl _) _).setCell (p := ⟨_, _, none⟩) (Nat.le_refl _) _).setCell (p := ⟨_, _, none⟩) (Nat.le_refl _) _).setCell (p := ⟨_, _, none⟩) (Nat.le_refl _) _).setCell (p := ⟨_, _, none⟩) (Nat.le_refl _) _⟩
  have := k (own_made rfl h.dw h.ltD (by unfold maxLen; omega))
  rw [List.map_replicate]
  exact this
/-- The start: three blocks, in whatever order. -/
theorem nr_start {w wx : World} {n X ga gd : Nat} (h0 : wx.heap[w.heap.size]? = some zR) (h1 : wx.heap[X]? = some (.cells #[.slice (some ⟨ga, 0, none⟩) n n, .slice (some ⟨gd, 0, none⟩) n n, .int .i64 0, .int .i64 1, .slice none 0 0, .slice none 0 0] 32 (0, 0))) (h2 : wx.heap[ga]? = some (oA n)) (h3 : wx.heap[gd]? = some (oB n)) (hb : Below w.heap.size w wx) (l1 : w.heap.size < X) (l2 : w.heap.size < ga) (l3 : w.heap.size < gd) : NR w n X ga gd none 0 0 wx :=
  ⟨h0, h1, h2, h3, World.ownsRow_nil _ _ _ _, hb, l1, l2, l3⟩
theorem heap4 (w : World) (z a b c : Obj) : ((((w.alloc z).alloc a).alloc b).alloc c).drew.heap[w.heap.size]? = some z ∧ ((((w.alloc z).alloc a).alloc b).alloc c).drew.heap[w.heap.size + 1]? = some a ∧ ((((w.alloc z).alloc a).alloc b).alloc c).drew.heap[w.heap.size + 2]? = some b ∧ ((((w.alloc z).alloc a).alloc b).alloc c).drew.heap[w.heap.size + 3]? = some c ∧ Below w.heap.size w ((((w.alloc z).alloc a).alloc b).alloc c).drew := by
  have e : ((((w.alloc z).alloc a).alloc b).alloc c).drew.heap = (((w.heap.push z).push a).push b).push c := rfl
  refine ⟨?_, ?_, ?_, ?_, (((((Below.refl _ _).alloc (Nat.le_refl _) _).alloc (by simp) _).alloc (by simp; omega) _).alloc (by simp; omega) _).drew⟩
  · rw [e, Array.getElem?_push, if_neg (by simp only [Array.size_push]; omega), Array.getElem?_push, if_neg (by simp only [Array.size_push]; omega), Array.getElem?_push, if_neg (by simp only [Array.size_push]; omega), Array.getElem?_push, if_pos rfl]
  · rw [e, Array.getElem?_push, if_neg (by simp only [Array.size_push]; omega), Array.getElem?_push, if_neg (by simp only [Array.size_push]; omega), Array.getElem?_push, if_pos (by simp only [Array.size_push])]
  · rw [e, Array.getElem?_push, if_neg (by simp only [Array.size_push]; omega), Array.getElem?_push, if_pos (by simp only [Array.size_push])]
  · rw [e, Array.getElem?_push, if_pos (by simp only [Array.size_push])]
theorem cell_one_new9 (w : World) (a : Value) (t : TypeId) : ∀ j u, [a][j]? = some u → (w.alloc (.cells #[a] t)).cell? ((⟨w.heap.size, 0, none⟩ : Addr).add j) = some u := by
  intro j u h
  rw [addr_add]
  match j, h with
  | 0, h => simp at h; subst h; simp
  | j + 1, h => simp at h
theorem one_cell9 (x : Int) : ∀ u ∈ [Value.int .i64 x], u.oneCell' = true := by
  intro u hu
  simp at hu
  rw [hu]
  rfl
set_option maxRecDepth 100000 in
set_option maxHeartbeats 4000000 in
theorem implNew_any (k : Int) (w : World) (m : Nat) (ep : Int) (ok : Bool) (hy : 1 ≤ k ∧ k ≤ 5 → (m : Int) = k ∧ ep = 1 ∧ ok = true) (hn : ¬ (1 ≤ k ∧ k ≤ 5) → m = 0 ∧ ep = 0 ∧ ok = false) :
    Calls Try.prog 14 #[.int .i64 k] w (RetN w m ep ok) := by
  obtain ⟨i0, hi, hz0, hz1, hz2⟩ := info_parts info_int
  have ZP := blk_new9 w zR
  have ZB := hide ((Below.refl w.heap.size w).alloc (Nat.le_refl _) zR)
  by_cases h1 : k < 1
  · obtain ⟨rfl, rfl, rfl⟩ := hn (fun h => by omega)
    obtain ⟨z0, z1, z2, z3, z4, z5⟩ := blk6 ZP
    clear hy hn ZP
    go_enter Try.func14, Try.ntmps14
    go_wp2
    refine bodyPost_ret (v := .tuple #[rpV none 0 0 none 0 0 0 0 none 0 0 none 0 0, .bool false]) (by simp [results, Try.f14, go_sem, z0, z1, z2, z3, z4, z5]) rfl (retN_none ?_)
    first | exact ZB.out | exact ((((((ZB.out.setCell (p := ⟨_, _, none⟩) (Nat.le_refl _) _).setCell (p := ⟨_, _, none⟩) (Nat.le_refl _) _).setCell (p := ⟨_, _, none⟩) (Nat.le_refl _) _).setCell (p := ⟨_, _, none⟩) (Nat.le_refl _) _).setCell (p := ⟨_, _, none⟩) (Nat.le_refl _) _).setCell (p := ⟨_, _, none⟩) (Nat.le_refl _) _)
  by_cases h5 : 5 < k
  · obtain ⟨rfl, rfl, rfl⟩ := hn (fun h => by omega)
    obtain ⟨z0, z1, z2, z3, z4, z5⟩ := blk6 ZP
    clear hy hn ZP
    go_enter Try.func14, Try.ntmps14
    go_wp2
    refine bodyPost_ret (v := .tuple #[rpV none 0 0 none 0 0 0 0 none 0 0 none 0 0, .bool false]) (by simp [results, Try.f14, go_sem, z0, z1, z2, z3, z4, z5]) rfl (retN_none ?_)
    first | exact ZB.out | exact ((((((ZB.out.setCell (p := ⟨_, _, none⟩) (Nat.le_refl _) _).setCell (p := ⟨_, _, none⟩) (Nat.le_refl _) _).setCell (p := ⟨_, _, none⟩) (Nat.le_refl _) _).setCell (p := ⟨_, _, none⟩) (Nat.le_refl _) _).setCell (p := ⟨_, _, none⟩) (Nat.le_refl _) _).setCell (p := ⟨_, _, none⟩) (Nat.le_refl _) _)
  obtain ⟨hmk, rfl, rfl⟩ := hy (by omega)
  subst hmk
  have hm5 : m ≤ 5 := by omega
  obtain ⟨OA, hOA, mk1⟩ := mk_logs m hm5
  obtain ⟨OB, hOB, mk2⟩ := mk_bools m hm5
  have HOA := hide hOA
  have HOB := hide hOB
  clear hOA hOB hy hn ZP ZB
  go_enter Try.func14, Try.ntmps14
  go_upto_region 3 with fail
  go_cut [4, 14, 16] (fun p sa sb wx => ∃ X ga gd, p = .pointer (some ⟨X, 0, none⟩) ∧ sa = .slice (some ⟨ga, 0, none⟩) m m ∧ sb = .slice (some ⟨gd, 0, none⟩) m m ∧ NR w m X ga gd none 0 0 wx)
  case first =>
    go_region_with (fail)
    all_goals (
      go_wp2_with fail
      go_meet
      refine ⟨_, _, _, rfl, rfl, rfl, ?_⟩
      rw [HOA.out, HOB.out]
      obtain ⟨q0, q1, q2, q3, q4⟩ := heap4 w zR _ _ _
      first
        | exact nr_start q0 q1 q2 q3 q4 (by omega) (by omega) (by omega)
        | exact nr_start q0 q1 q3 q2 q4 (by omega) (by omega) (by omega)
        | exact nr_start q0 q2 q1 q3 q4 (by omega) (by omega) (by omega)
        | exact nr_start q0 q2 q3 q1 q4 (by omega) (by omega) (by omega)
        | exact nr_start q0 q3 q1 q2 q4 (by omega) (by omega) (by omega)
        | exact nr_start q0 q3 q2 q1 q4 (by omega) (by omega) (by omega))
  case rest =>
    obtain ⟨X, ga, gd, rfl, rfl, rfl, hnr⟩ := hcut
    have H0 := hide hnr
    clear hnr mk1 mk2
    go_wp2
    go_loopw [19] (fun i wr => ∃ (j : Nat) (ay : Option Addr) (cy : Nat), j ≤ m ∧ i = .int .i64 j ∧ Hid (NR w m X ga gd ay j cy wr)) (fun i _ => m - (intOf i).toNat)
    case atStart => exact ⟨0, none, 0, Nat.zero_le _, rfl, H0⟩
    case round =>
      obtain ⟨j, ay, cy, hj, rfl, HN⟩ := hrel
      obtain ⟨y0, y1, y2, y3, y4, y5⟩ := blk6 HN.out.box
      by_cases hlt : j < m
      · have hltI : (j : Int) < (m : Int) := by omega
        have yf : wr.frozen? ⟨X, 4, none⟩ = false := by simp [World.frozen?, HN.out.box]
        have hsz : w.heap.size + 1 ≤ (wr.alloc (.cells #[.int .i64 (j : Int)] 3)).heap.size := by have := HN.out.bel.size; simp; omega
        have O1 := hide (own_belowT HN.out.sy ((Below.refl wr.heap.size wr).alloc (Nat.le_refl _) (.cells #[.int .i64 (j : Int)] 3)))
        go_wp2_with (first
          | (at_builtin; refine wpList_append_own_at _ rfl _ _ 22 rfl (w.heap.size + 1) 3 i0 (.int .i64 0) 1 8 Try.underlying22 hi hz0 hz1 hz2 rfl (by decide) (.slice ay j cy) j _ rfl O1.out ⟨wr.heap.size, 0, none⟩ 1 1 [.int .i64 (j : Int)] rfl rfl (cell_one_new9 _ _ _) (one_cell9 _) (by unfold maxLen; omega) (by omega) hsz ?_)
          | go_in)
        intro v6 w6 hown6 hg6 _ _
        obtain ⟨a6, c6, rfl, _, _⟩ := (show ∃ a c, v6 = .slice a (j + 1) c ∧ True ∧ True from by
          rcases hown6.2 with ⟨_, h0⟩ | ⟨g, cap, cur, hv, _⟩
          · omega
          · exact ⟨_, cap, hv, trivial, trivial⟩)
        obtain ⟨⟨x4, xf⟩, hst⟩ := HN.out.step hown6 hg6
        have HST := hide hst
        clear hown6 hg6 hst O1
        go_wp2
        go_roundw
        case rel => exact ⟨j + 1, a6, c6, by omega, by go_num, HST⟩
        case measure => simp [intOf]; omega
      · obtain rfl : j = m := by omega
        have hltI : ¬ (j : Int) < (j : Int) := by omega
        obtain ⟨z0, z1, z2, z3, z4, z5⟩ := blk6 HN.out.res
        have zf : ∀ i, wr.frozen? ⟨w.heap.size, i, none⟩ = false := fun i => by simp [World.frozen?, HN.out.res]
        go_wp2
        refine bodyPost_ret (v := .tuple #[rpV (some ⟨ga, 0, none⟩) j j (some ⟨gd, 0, none⟩) j j 0 1 ay j cy none 0 0, .bool true]) (by simp [results, Try.f14, go_sem, z0, z1, z2, z3, z4, z5]) rfl (HN.out.out hm5 _ _ _ _ _ _)
set_option maxRecDepth 100000 in
set_option maxHeartbeats 4000000 in
theorem specNew_any (k : Int) (w : World) (m : Nat) (ep : Int) (ok : Bool) (hy : 1 ≤ k ∧ k ≤ 5 → (m : Int) = k ∧ ep = 1 ∧ ok = true) (hn : ¬ (1 ≤ k ∧ k ≤ 5) → m = 0 ∧ ep = 0 ∧ ok = false) :
    Calls Try.prog 13 #[.int .i64 k] w (RetN w m ep ok) := by
  obtain ⟨i0, hi, hz0, hz1, hz2⟩ := info_parts info_int
  have ZP := blk_new9 w zR
  have ZB := hide ((Below.refl w.heap.size w).alloc (Nat.le_refl _) zR)
  by_cases hin : 1 ≤ k ∧ k ≤ 5
  rotate_left
  · have C := hide (fun wx => L7.l1In_any k 1 5 wx false (by simp only [Bool.false_eq_true, false_iff]; exact hin))
    obtain ⟨rfl, rfl, rfl⟩ := hn hin
    obtain ⟨z0, z1, z2, z3, z4, z5⟩ := blk6 ZP
    clear hy hn ZP
    go_enter Try.func13, Try.ntmps13
    clear hin
    go_wp2_with fail
    refine (C.out _).mono ?_
    rintro e w2 ⟨rfl, rfl⟩
    go_wp2
    refine bodyPost_ret (v := .tuple #[rpV none 0 0 none 0 0 0 0 none 0 0 none 0 0, .bool false]) (by simp [results, Try.f13, go_sem, z0, z1, z2, z3, z4, z5]) rfl (retN_none ?_)
    first | exact ZB.out | exact ((((((ZB.out.setCell (p := ⟨_, _, none⟩) (Nat.le_refl _) _).setCell (p := ⟨_, _, none⟩) (Nat.le_refl _) _).setCell (p := ⟨_, _, none⟩) (Nat.le_refl _) _).setCell (p := ⟨_, _, none⟩) (Nat.le_refl _) _).setCell (p := ⟨_, _, none⟩) (Nat.le_refl _) _).setCell (p := ⟨_, _, none⟩) (Nat.le_refl _) _)
  have C := hide (fun wx => L7.l1In_any k 1 5 wx true (by simp [hin]))
  obtain ⟨h1, h5⟩ := hin
  obtain ⟨hmk, rfl, rfl⟩ := hy (by omega)
  subst hmk
  have hm5 : m ≤ 5 := by omega
  obtain ⟨OA, hOA, mk1⟩ := mk_logs m hm5
  obtain ⟨OB, hOB, mk2⟩ := mk_bools m hm5
  have HOA := hide hOA
  have HOB := hide hOB
  clear hOA hOB hy hn ZP ZB
  go_enter Try.func13, Try.ntmps13
  go_wp2_with fail
  refine (C.out _).mono ?_
  rintro e w2 ⟨rfl, rfl⟩
  go_upto_region 3 with fail
  go_cut [4, 11, 13] (fun p sa sb wx => ∃ X ga gd, p = .pointer (some ⟨X, 0, none⟩) ∧ sa = .slice (some ⟨ga, 0, none⟩) m m ∧ sb = .slice (some ⟨gd, 0, none⟩) m m ∧ NR w m X ga gd none 0 0 wx)
  case first =>
    go_region_with (fail)
    all_goals (
      go_wp2_with fail
      go_meet
      refine ⟨_, _, _, rfl, rfl, rfl, ?_⟩
      rw [HOA.out, HOB.out]
      obtain ⟨q0, q1, q2, q3, q4⟩ := heap4 w zR _ _ _
      first
        | exact nr_start q0 q1 q2 q3 q4 (by omega) (by omega) (by omega)
        | exact nr_start q0 q1 q3 q2 q4 (by omega) (by omega) (by omega)
        | exact nr_start q0 q2 q1 q3 q4 (by omega) (by omega) (by omega)
        | exact nr_start q0 q2 q3 q1 q4 (by omega) (by omega) (by omega)
        | exact nr_start q0 q3 q1 q2 q4 (by omega) (by omega) (by omega)
        | exact nr_start q0 q3 q2 q1 q4 (by omega) (by omega) (by omega))
  case rest =>
    obtain ⟨X, ga, gd, rfl, rfl, rfl, hnr⟩ := hcut
    have H0 := hide hnr
    clear hnr mk1 mk2
    go_wp2
    go_loopw [5] (fun i wr => ∃ (j : Nat) (ay : Option Addr) (cy : Nat), j ≤ m ∧ i = .int .i64 j ∧ Hid (NR w m X ga gd ay j cy wr)) (fun i _ => m - (intOf i).toNat)
    case atStart => exact ⟨0, none, 0, Nat.zero_le _, rfl, H0⟩
    case round =>
      obtain ⟨j, ay, cy, hj, rfl, HN⟩ := hrel
      obtain ⟨y0, y1, y2, y3, y4, y5⟩ := blk6 HN.out.box
      by_cases hlt : j < m
      · have hltI : (j : Int) < (m : Int) := by omega
        have yf : wr.frozen? ⟨X, 4, none⟩ = false := by simp [World.frozen?, HN.out.box]
        have hsz : w.heap.size + 1 ≤ (wr.alloc (.cells #[.int .i64 (j : Int)] 3)).heap.size := by have := HN.out.bel.size; simp; omega
        have O1 := hide (own_belowT HN.out.sy ((Below.refl wr.heap.size wr).alloc (Nat.le_refl _) (.cells #[.int .i64 (j : Int)] 3)))
        go_wp2_with (first
          | (at_builtin; refine wpList_append_own_at _ rfl _ _ 22 rfl (w.heap.size + 1) 3 i0 (.int .i64 0) 1 8 Try.underlying22 hi hz0 hz1 hz2 rfl (by decide) (.slice ay j cy) j _ rfl O1.out ⟨wr.heap.size, 0, none⟩ 1 1 [.int .i64 (j : Int)] rfl rfl (cell_one_new9 _ _ _) (one_cell9 _) (by unfold maxLen; omega) (by omega) hsz ?_)
          | go_in)
        intro v6 w6 hown6 hg6 _ _
        obtain ⟨a6, c6, rfl, _, _⟩ := (show ∃ a c, v6 = .slice a (j + 1) c ∧ True ∧ True from by
          rcases hown6.2 with ⟨_, h0⟩ | ⟨g, cap, cur, hv, _⟩
          · omega
          · exact ⟨_, cap, hv, trivial, trivial⟩)
        obtain ⟨⟨x4, xf⟩, hst⟩ := HN.out.step hown6 hg6
        have HST := hide hst
        clear hown6 hg6 hst O1
        go_wp2
        go_roundw
        case rel => exact ⟨j + 1, a6, c6, by omega, by go_num, HST⟩
        case measure => simp [intOf]; omega
      · obtain rfl : j = m := by omega
        have hltI : ¬ (j : Int) < (j : Int) := by omega
        obtain ⟨z0, z1, z2, z3, z4, z5⟩ := blk6 HN.out.res
        have zf : ∀ i, wr.frozen? ⟨w.heap.size, i, none⟩ = false := fun i => by simp [World.frozen?, HN.out.res]
        go_wp2
        refine bodyPost_ret (v := .tuple #[rpV (some ⟨ga, 0, none⟩) j j (some ⟨gd, 0, none⟩) j j 0 1 ay j cy none 0 0, .bool true]) (by simp [results, Try.f13, go_sem, z0, z1, z2, z3, z4, z5]) rfl (HN.out.out hm5 _ _ _ _ _ _)
end Go.Proofs.Ytbcljhafdpnjbbd.L9
