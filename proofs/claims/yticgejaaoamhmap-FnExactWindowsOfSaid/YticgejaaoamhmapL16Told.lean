/-
  Contract: what is told of a window.
-/
import Derived.Test.YticgejaaoamhmapL16WinM
import Derived.Test.YticgejaaoamhmapL16RsM
import Derived.Test.YticgejaaoamhmapL16FL
import Derived.Test.YticgejaaoamhmapL16RisA
import Derived.Test.YticgejaaoamhmapL8Gen
import Derived.Deep.RegionHeld3
namespace Go.Proofs.Yticgejaaoamhmap.L16
open Go.RowKit L1
set_option linter.unusedVariables false

/-- A window in its box, the room of what is told behind it. -/
structure TO (w wx : World) (b off m cap : Nat) (f : Int) : Prop where
  x0 : wx.cell? ⟨w.heap.size, 0, none⟩ = some (.slice (some ⟨b, off, none⟩) m cap)
  x1 : wx.cell? ⟨w.heap.size, 1, none⟩ = some (.int .i64 f)
  z : wx.heap[w.heap.size + 1]? = some (.cells #[.int .i64 0, .int .i64 0, .int .i64 0, .int .i64 0, .int .i64 0] 52 (0, 0))
  b : Below w.heap.size w wx
theorem TO.new (w : World) (b off m cap : Nat) (f : Int) : TO w ((w.alloc (.cells #[.slice (some ⟨b, off, none⟩) m cap, .int .i64 f] 57 (0, 0))).alloc (.cells #[.int .i64 0, .int .i64 0, .int .i64 0, .int .i64 0, .int .i64 0] 52 (0, 0))) b off m cap f := by
  refine ⟨by simp, by simp, ?_, ((Below.refl _ _).alloc (Nat.le_refl _) _).alloc (by simp) _⟩
  have := L8.blk_new (w.alloc (.cells #[.slice (some ⟨b, off, none⟩) m cap, .int .i64 f] 57 (0, 0))) (.cells #[.int .i64 0, .int .i64 0, .int .i64 0, .int .i64 0, .int .i64 0] 52 (0, 0))
  simpa using this
theorem TO.step {w wx wy : World} {b off m cap : Nat} {f : Int} (h : TO w wx b off m cap f) (hb : Below wx.heap.size wx wy) : TO w wy b off m cap f :=
  ⟨(hb.cell (p := ⟨w.heap.size, 0, none⟩) (blk_lt h.x0)).trans h.x0, (hb.cell (p := ⟨w.heap.size, 1, none⟩) (blk_lt h.x1)).trans h.x1,
   (hb.block _ (Array.getElem?_eq_some_iff.1 h.z).1).trans h.z, h.b.trans (hb.mono h.b.size)⟩
theorem blk5W {w : World} {g : Nat} {a b c d e : Value} {t : TypeId} (h : w.heap[g]? = some (.cells #[a, b, c, d, e] t (0, 0))) : w.cell? ⟨g, 0, none⟩ = some a ∧ w.cell? ⟨g, 1, none⟩ = some b ∧ w.cell? ⟨g, 2, none⟩ = some c ∧ w.cell? ⟨g, 3, none⟩ = some d ∧ w.cell? ⟨g, 4, none⟩ = some e ∧ w.frozen? ⟨g, 0, none⟩ = false ∧ w.frozen? ⟨g, 1, none⟩ = false ∧ w.frozen? ⟨g, 2, none⟩ = false ∧ w.frozen? ⟨g, 3, none⟩ = false ∧ w.frozen? ⟨g, 4, none⟩ = false := by
  simp [World.cell?, World.frozen?, h]
theorem set5W {w : World} {g : Nat} {a b c d e : Value} {t : TypeId} (h : w.heap[g]? = some (.cells #[a, b, c, d, e] t (0, 0))) (v0 v1 v2 v3 v4 : Value) : (((((w.setCell ⟨g, 0, none⟩ v0).setCell ⟨g, 1, none⟩ v1).setCell ⟨g, 2, none⟩ v2).setCell ⟨g, 3, none⟩ v3).setCell ⟨g, 4, none⟩ v4).heap[g]? = some (.cells #[v0, v1, v2, v3, v4] t (0, 0)) := by
  have hlt := (Array.getElem?_eq_some_iff.1 h).1
  have he := (Array.getElem?_eq_some_iff.1 h).2
  simp [World.setCell, Array.getElem_modify, he, hlt]
theorem below5W {w x : World} {base g : Nat} (h : Below base w x) (hg : base ≤ g) (v0 v1 v2 v3 v4 : Value) : Below base w (((((x.setCell ⟨g, 0, none⟩ v0).setCell ⟨g, 1, none⟩ v1).setCell ⟨g, 2, none⟩ v2).setCell ⟨g, 3, none⟩ v3).setCell ⟨g, 4, none⟩ v4) :=
  ((((h.setCell (p := ⟨g, 0, none⟩) hg _).setCell (p := ⟨g, 1, none⟩) hg _).setCell (p := ⟨g, 2, none⟩) hg _).setCell (p := ⟨g, 3, none⟩) hg _).setCell (p := ⟨g, 4, none⟩) hg _
theorem kept5W {x : World} {p : Addr} {g : Nat} (hg : p.block ≠ g) (v0 v1 v2 v3 v4 : Value) : (((((x.setCell ⟨g, 0, none⟩ v0).setCell ⟨g, 1, none⟩ v1).setCell ⟨g, 2, none⟩ v2).setCell ⟨g, 3, none⟩ v3).setCell ⟨g, 4, none⟩ v4).cell? p = x.cell? p := by
  simp [World.cell?, World.setCell, Array.getElem?_modify, Ne.symm hg]
set_option maxRecDepth 100000 in
set_option maxHeartbeats 4000000 in
theorem told_any (b off : Nat) (L : List (Int × Int)) (m cap : Nat) (f : Int) (w : World) (hm : L.length = m) (hs : Sl2 w (some ⟨b, off, none⟩) L) (hc : Ctr L) (h0 : 0 < m) :
    Calls Try.prog 37 #[.agg #[.slice (some ⟨b, off, none⟩) m cap, .int .i64 f]] w fun e w' => e = .returned (.agg #[.int .i64 f, .int .i64 (vl L 0), .int .i64 (vl L (m - 1)), .int .i64 (m : Int), .int .i64 (ris L m)]) ∧ Below w.heap.size w w' := by
  obtain ⟨h40, hv, hrr⟩ := ctr_val hc hm
  have CF := hide (fun wx hs => first_any (some ⟨b, off, none⟩) L m cap wx hm hs (by omega) h0)
  have CL := hide (fun wx hs => last_any (some ⟨b, off, none⟩) L m cap wx hm hs (by omega) h0)
  have CR := hide (fun wx hs => rise_any (some ⟨b, off, none⟩) L m cap wx hm hs h40 hv hrr)
  have HS := hide hs
  obtain ⟨r, hr⟩ : ∃ r, r = ris L m := ⟨_, rfl⟩
  obtain ⟨y0, hy0⟩ : ∃ r, r = vl L 0 := ⟨_, rfl⟩
  obtain ⟨y1, hy1⟩ : ∃ r, r = vl L (m - 1) := ⟨_, rfl⟩
  rw [← hr] at CR
  rw [← hy0] at CF
  rw [← hy1] at CL
  rw [← hr, ← hy0, ← hy1]
  obtain ⟨x0, hx0⟩ : ∃ r, r = at_ L 0 := ⟨_, rfl⟩
  obtain ⟨x1, hx1⟩ : ∃ r, r = at_ L (m - 1) := ⟨_, rfl⟩
  rw [← hx0] at CF
  rw [← hx1] at CL
  obtain ⟨W0, hW0⟩ : ∃ W0, W0 = (w.alloc (.cells #[.slice (some ⟨b, off, none⟩) m cap, .int .i64 f] 57 (0, 0))).alloc (.cells #[.int .i64 0, .int .i64 0, .int .i64 0, .int .i64 0, .int .i64 0] 52 (0, 0)) := ⟨_, rfl⟩
  have T0 := hide (show TO w W0 b off m cap f by rw [hW0]; exact TO.new w b off m cap f)
  have HW := hide hW0
  clear hs hc hm hv hrr hr hy0 hy1 hx0 hx1 hW0 h0 h40
  go_enter Try.func37, Try.ntmps37
  go_upto_region 1 with fail
  rw [← HW.out]
  refine wp_region_held_drew (S := (fun wx => (wx.cell? ⟨w.heap.size, 0, none⟩ = some (.slice (some ⟨b, off, none⟩) m cap)) ∧ wx.cell? ⟨w.heap.size, 1, none⟩ = some (.int .i64 f))) (by kernel_rfl) ⟨T0.out.x0, T0.out.x1⟩ (fun hHeld => ?_)
  refine wpAnyH_take (i := 0) (v := ?v1) rfl (by kernel_rfl) (by kernel_rfl) (by kernel_rfl) (fun _ _ _ h => h) (Or.inl ⟨by rfl, ?y1⟩) (by assumption) ?r1
  case y1 => (intro w hSw; (try dsimp only at hSw); go_simp; try (with_reducible rfl))
  simp only [List.getElem_toArray, List.getElem_cons_zero, Act.put, List.setIfInBounds_toArray, List.set_cons_zero, List.set_cons_succ]
  refine wpAnyH_take (i := 1) (v := ?v2) rfl (by kernel_rfl) (by kernel_rfl) (by kernel_rfl) (fun _ _ _ h => h) (Or.inl ⟨by rfl, ?y2⟩) (by assumption) ?r2
  case y2 => (intro w hSw; (try dsimp only at hSw); go_simp; try (with_reducible rfl))
  simp only [List.getElem_toArray, List.getElem_cons_succ, List.getElem_cons_zero, Act.put, List.setIfInBounds_toArray, List.set_cons_zero, List.set_cons_succ]
  refine wpAnyH_take (i := 2) (v := ?v3) rfl (by kernel_rfl) (by kernel_rfl) (by kernel_rfl) (fun _ _ _ h => h) (Or.inl ⟨by rfl, ?y3⟩) (by assumption) ?r3
  case y3 => (intro w hSw; (try dsimp only at hSw); go_simp; try (with_reducible rfl))
  simp only [List.getElem_toArray, List.getElem_cons_succ, List.getElem_cons_zero, Act.put, List.setIfInBounds_toArray, List.set_cons_zero, List.set_cons_succ]
  refine wpAnyH_take (i := 3) (v := ?v4) rfl (by kernel_rfl) (by kernel_rfl) (by kernel_rfl) (fun _ _ _ h => h) (Or.inl ⟨by rfl, ?y4⟩) (by assumption) ?r4
  case y4 => (intro w hSw; (try dsimp only at hSw); go_simp; try (with_reducible rfl))
  simp only [List.getElem_toArray, List.getElem_cons_succ, List.getElem_cons_zero, Act.put, List.setIfInBounds_toArray, List.set_cons_zero, List.set_cons_succ]
  refine wpAnyH_take (i := 6) (v := ?v5) rfl (by kernel_rfl) (by kernel_rfl) (by kernel_rfl) (fun _ _ _ h => h) (Or.inl ⟨by rfl, ?y5⟩) (by assumption) ?r5
  case y5 => (intro w hSw; (try dsimp only at hSw); go_simp; try (with_reducible rfl))
  simp only [List.getElem_toArray, List.getElem_cons_succ, List.getElem_cons_zero, Act.put, List.setIfInBounds_toArray, List.set_cons_zero, List.set_cons_succ]
  refine wpAnyH_take (i := 7) (v := ?v6) rfl (by kernel_rfl) (by kernel_rfl) (by kernel_rfl) (fun _ _ _ h => h) (Or.inl ⟨by rfl, ?y6⟩) (by assumption) ?r6
  case y6 => (intro w hSw; (try dsimp only at hSw); go_simp; try (with_reducible rfl))
  simp only [List.getElem_toArray, List.getElem_cons_succ, List.getElem_cons_zero, Act.put, List.setIfInBounds_toArray, List.set_cons_zero, List.set_cons_succ]
  refine wpAnyH_take (i := 10) (v := ?v7) rfl (by kernel_rfl) (by kernel_rfl) (by kernel_rfl) (fun _ _ _ h => h) (Or.inl ⟨by rfl, ?y7⟩) (by assumption) ?r7
  case y7 => (intro w hSw; (try dsimp only at hSw); go_simp; try (with_reducible rfl))
  simp only [List.getElem_toArray, List.getElem_cons_succ, List.getElem_cons_zero, Act.put, List.setIfInBounds_toArray, List.set_cons_zero, List.set_cons_succ]
  refine wpAnyH_take (i := 11) (v := ?v8) rfl (by kernel_rfl) (by kernel_rfl) (by kernel_rfl) (fun _ _ _ h => h) (Or.inl ⟨by rfl, ?y8⟩) (by assumption) ?r8
  case y8 => (intro w hSw; (try dsimp only at hSw); go_simp; try (with_reducible rfl))
  simp only [List.getElem_toArray, List.getElem_cons_succ, List.getElem_cons_zero, Act.put, List.setIfInBounds_toArray, List.set_cons_zero, List.set_cons_succ]
  refine wpAnyH_take (i := 12) (v := ?v9) rfl (by kernel_rfl) (by kernel_rfl) (by kernel_rfl) (fun _ _ _ h => h) (Or.inl ⟨by rfl, ?y9⟩) (by assumption) ?r9
  case y9 => (intro w hSw; (try dsimp only at hSw); go_simp; try (with_reducible rfl))
  simp only [List.getElem_toArray, List.getElem_cons_succ, List.getElem_cons_zero, Act.put, List.setIfInBounds_toArray, List.set_cons_zero, List.set_cons_succ]
  refine wpAnyH_take (i := 13) (v := ?v10) rfl (by kernel_rfl) (by kernel_rfl) (by kernel_rfl) (fun _ _ _ h => h) (Or.inl ⟨by rfl, ?y10⟩) (by assumption) ?r10
  case y10 => (intro w hSw; (try dsimp only at hSw); go_simp; try (with_reducible rfl))
  simp only [List.getElem_toArray, List.getElem_cons_succ, List.getElem_cons_zero, Act.put, List.setIfInBounds_toArray, List.set_cons_zero, List.set_cons_succ]
  refine wpAnyH_take (i := 14) (v := ?v11) rfl (by kernel_rfl) (by kernel_rfl) (by kernel_rfl) (fun _ _ _ h => h) (Or.inl ⟨by rfl, ?y11⟩) (by assumption) ?r11
  case y11 => (intro w hSw; (try dsimp only at hSw); go_simp; try (with_reducible rfl))
  simp only [List.getElem_toArray, List.getElem_cons_succ, List.getElem_cons_zero, Act.put, List.setIfInBounds_toArray, List.set_cons_zero, List.set_cons_succ]
  refine wpAnyH_take (i := 15) (v := ?v12) rfl (by kernel_rfl) (by kernel_rfl) (by kernel_rfl) (fun _ _ _ h => h) (Or.inl ⟨by rfl, ?y12⟩) (by assumption) ?r12
  case y12 => (intro w hSw; (try dsimp only at hSw); go_simp; try (with_reducible rfl))
  simp only [List.getElem_toArray, List.getElem_cons_succ, List.getElem_cons_zero, Act.put, List.setIfInBounds_toArray, List.set_cons_zero, List.set_cons_succ]
  refine wpAnyH_ready (rs := [4]) (by kernel_rfl) (by simp) ?_
  refine AllReadyH.cons rfl (fun K hK => ?_) AllReadyH.nil
  simp only [List.getElem_toArray, List.getElem_cons_succ, List.getElem_cons_zero]
  go_simp
  go_at_call 41
  refine (CF.out _ (HS.out.below (T0.out.b.drew))).mono ?_
  rintro e w2 ⟨rfl, hb⟩
  have E1 := hide (show TO w w2 b off m cap f from T0.out.step ((Below.refl _ _).drew.trans (hb.mono (by simp))))
  clear hb
  dsimp only
  refine hK.out _ _ ?_ (fun hHeld => ?_)
  · exact ⟨E1.out.x0, E1.out.x1⟩
  clear hK K
  try simp only [Act.put, List.setIfInBounds_toArray, List.set_cons_zero, List.set_cons_succ]
  refine wpAnyH_take (i := 5) (v := ?v13) rfl (by kernel_rfl) (by kernel_rfl) (by kernel_rfl) (fun _ _ _ h => h) (Or.inl ⟨by rfl, ?y13⟩) (by assumption) ?r13
  case y13 => (intro w hSw; (try dsimp only at hSw); go_simp; first | with_reducible rfl | rfl)
  simp only [List.getElem_toArray, List.getElem_cons_succ, List.getElem_cons_zero, Act.put, List.setIfInBounds_toArray, List.set_cons_zero, List.set_cons_succ]
  refine wpAnyH_ready (rs := [8]) (by kernel_rfl) (by simp) ?_
  refine AllReadyH.cons rfl (fun K hK => ?_) AllReadyH.nil
  simp only [List.getElem_toArray, List.getElem_cons_succ, List.getElem_cons_zero]
  go_simp
  go_at_call 40
  refine (CL.out _ (HS.out.below (E1.out.b))).mono ?_
  rintro e w3 ⟨rfl, hb⟩
  have E2 := hide (show TO w w3 b off m cap f from E1.out.step (hb))
  clear hb
  dsimp only
  refine hK.out _ _ ?_ (fun hHeld => ?_)
  · exact ⟨E2.out.x0, E2.out.x1⟩
  clear hK K
  try simp only [Act.put, List.setIfInBounds_toArray, List.set_cons_zero, List.set_cons_succ]
  refine wpAnyH_take (i := 9) (v := ?v14) rfl (by kernel_rfl) (by kernel_rfl) (by kernel_rfl) (fun _ _ _ h => h) (Or.inl ⟨by rfl, ?y14⟩) (by assumption) ?r14
  case y14 => (intro w hSw; (try dsimp only at hSw); go_simp; first | with_reducible rfl | rfl)
  simp only [List.getElem_toArray, List.getElem_cons_succ, List.getElem_cons_zero, Act.put, List.setIfInBounds_toArray, List.set_cons_zero, List.set_cons_succ]
  refine wpAnyH_ready (rs := [16]) (by kernel_rfl) (by simp) ?_
  refine AllReadyH.cons rfl (fun K hK => ?_) AllReadyH.nil
  simp only [List.getElem_toArray, List.getElem_cons_succ, List.getElem_cons_zero]
  go_simp
  go_at_call 39
  refine (CR.out _ (HS.out.below (E2.out.b))).mono ?_
  rintro e w4 ⟨rfl, hb⟩
  have E3 := hide (show TO w w4 b off m cap f from E2.out.step (hb))
  clear hb
  dsimp only
  refine hK.out _ _ ?_ (fun hHeld => ?_)
  · exact ⟨E3.out.x0, E3.out.x1⟩
  clear hK K
  try simp only [Act.put, List.setIfInBounds_toArray, List.set_cons_zero, List.set_cons_succ]
  refine wpAnyH_take (i := 17) (v := ?v15) rfl (by kernel_rfl) (by kernel_rfl) (by kernel_rfl) (fun _ _ _ h => h) (Or.inl ⟨by rfl, ?y15⟩) (by assumption) ?r15
  case y15 => (intro w hSw; (try dsimp only at hSw); go_simp; try (with_reducible rfl))
  simp only [List.getElem_toArray, List.getElem_cons_succ, List.getElem_cons_zero, Act.put, List.setIfInBounds_toArray, List.set_cons_zero, List.set_cons_succ]
  refine wpAnyH_ready (rs := [18]) (by kernel_rfl) (by simp) ?_
  refine AllReadyH.cons rfl (fun K hK => ?_) AllReadyH.nil
  simp only [List.getElem_toArray, List.getElem_cons_succ, List.getElem_cons_zero]
  obtain ⟨d0, d1, d2, d3, d4, f0, f1, f2, f3, f4⟩ := blk5W E3.out.z
  go_simp
  obtain ⟨w5, hw5⟩ : ∃ y, y = (((((w4.setCell ⟨w.heap.size + 1, 0, none⟩ (.int .i64 f)).setCell ⟨w.heap.size + 1, 1, none⟩ (.int .i64 y0)).setCell ⟨w.heap.size + 1, 2, none⟩ (.int .i64 y1)).setCell ⟨w.heap.size + 1, 3, none⟩ (.int .i64 (m : Int))).setCell ⟨w.heap.size + 1, 4, none⟩ (.int .i64 r)) := ⟨_, rfl⟩
  have Z5 := hide (show w5.heap[w.heap.size + 1]? = some (.cells #[.int .i64 f, .int .i64 y0, .int .i64 y1, .int .i64 (m : Int), .int .i64 r] 52 (0, 0)) by rw [hw5]; exact set5W E3.out.z _ _ _ _ _)
  have B5 := hide (show Below w.heap.size w w5 by rw [hw5]; exact below5W E3.out.b (Nat.le_succ _) _ _ _ _ _)
  have q0 : w5.cell? ⟨w.heap.size, 0, none⟩ = some (.slice (some ⟨b, off, none⟩) m cap) := by rw [hw5, kept5W (by simp)]; exact E3.out.x0
  have q1 : w5.cell? ⟨w.heap.size, 1, none⟩ = some (.int .i64 f) := by rw [hw5, kept5W (by simp)]; exact E3.out.x1
  rw [← hw5]
  refine hK.out _ _ ?_ (fun hHeld => ?_)
  · exact ⟨q0, q1⟩
  clear hK K
  try simp only [Act.put, List.setIfInBounds_toArray, List.set_cons_zero, List.set_cons_succ]
  refine wpAnyH_done (by kernel_rfl) ?_ _
  clear hHeld
  obtain ⟨d0, d1, d2, d3, d4, f0, f1, f2, f3, f4⟩ := blk5W Z5.out
  go_wp2
  refine bodyPost_ret (v := .agg #[.int .i64 f, .int .i64 y0, .int .i64 y1, .int .i64 (m : Int), .int .i64 r]) (by simp [results, Try.f37, go_sem, d0, d1, d2, d3, d4]) rfl ⟨rfl, ?_⟩
  exact B5.out
end Go.Proofs.Yticgejaaoamhmap.L16
