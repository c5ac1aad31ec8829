/-
  Contract: spec.l9Do, steps of kind 6.
  Contract: spec.l9Do, steps of kind 7.
  Contract: spec.l9Do, steps of no use, and all kinds together.
  Contract: spec.l9Certain.
  Contract: spec.l9Step.
  Contract: spec.PlayRepl.
  Contract of the laws' own helper eqIntS: it says that two lists of ints alike are alike.
  Plain mathematics: the numbers of a text, one behind the other. Nothing of Go stands here.
-/
import Derived.Test.YthmekhhfihjclbdBundle9
import Derived.Test.YthmekhhfihjclbdBundle6
import Derived.Deep.DeepCutAuto
import Derived.Test.YthmekhhfihjclbdBundle10
import Derived.Test.YthmekhhfihjclbdBundle8
import Derived.Test.YthmekhhfihjclbdBundle4
import Derived.Test.YthmekhhfihjclbdBundle1
import Derived.Deep.RegionHeld3
import Derived.Deep.QuietTactic
import Derived.BigQuiet
namespace Go.Proofs.Ythmekhhfihjclbd.L9
open Go.RowKit L1 L7
set_option linter.unusedVariables false

set_option maxRecDepth 100000 in
set_option maxHeartbeats 2000000 in
theorem sdo_6 (S : Nat → Prop) (V : List Value) (gb cg db cd : Nat) (ay : Option Addr) (cy : Nat) (ac : Option Addr) (cc : Nat) (r : Rm) (w : World) (hI : Inv r) (hW : RW w S V (.slice (some ⟨gb, 0, none⟩) r.G.length cg) (.slice (some ⟨db, 0, none⟩) r.dn.length cd) (.slice ay r.sy.length cy) (.slice ac r.ce.length cc) r) (hS : ∀ q, S q → q < w.heap.size) (nd : Int) (t : ByteArray) (ht : t.size = 0) (h0 : 0 ≤ nd) (h1 : nd < (r.G.length : Int)) (o : Option Rm) (ho : o = if r.down nd = true then some { r with dn := r.dn.set nd.toNat false } else none) :
    Calls Try.prog 80 #[rpV (some ⟨gb, 0, none⟩) r.G.length cg (some ⟨db, 0, none⟩) r.dn.length cd r.ld r.ep ay r.sy.length cy ac r.ce.length cc, .agg #[.int .i64 6, .int .i64 nd, .string t]] w fun e w' => SDo S w (o.getD r) o.isSome e w' := by
  obtain rfl := empty_of ht
  have hnode := hI.node
  have hdn := hI.good.down
  have hn1 := hI.good.logs.1
  have hzz := rpz_of hI
  obtain ⟨i, rfl⟩ : ∃ i : Nat, nd = (i : Int) := ⟨nd.toNat, by omega⟩
  obtain ⟨j, hj⟩ : ∃ j : Nat, r.ld = (j : Int) := ⟨r.ld.toNat, by omega⟩
  obtain ⟨n, hn⟩ : ∃ n, n = r.G.length := ⟨_, rfl⟩
  obtain ⟨ny, hny⟩ : ∃ ny, ny = r.sy.length := ⟨_, rfl⟩
  obtain ⟨nc, hnc⟩ : ∃ nc, nc = r.ce.length := ⟨_, rfl⟩
  obtain ⟨E, hE⟩ : ∃ E, E = r.ep := ⟨_, rfl⟩
  have hin : i < n := by omega
  have hjn : j < n := by omega
  obtain ⟨hsz3, X0, X1, X2, BX0⟩ := alloc3 w (Obj.cells #[.slice (some ⟨gb, 0, none⟩) n cg, .slice (some ⟨db, 0, none⟩) n cd, .int .i64 (j : Int), .int .i64 E, .slice ay ny cy, .slice ac nc cc] 32) (Obj.cells #[.int .i64 6, .int .i64 (i : Int), .string ByteArray.empty] 50) zR
  obtain ⟨w3, hw3⟩ : ∃ w3, w3 = ((w.alloc (Obj.cells #[.slice (some ⟨gb, 0, none⟩) n cg, .slice (some ⟨db, 0, none⟩) n cd, .int .i64 (j : Int), .int .i64 E, .slice ay ny cy, .slice ac nc cc] 32)).alloc (Obj.cells #[.int .i64 6, .int .i64 (i : Int), .string ByteArray.empty] 50)).alloc zR := ⟨_, rfl⟩
  rw [← hw3] at hsz3 X0 X1 X2 BX0
  have HW3 := hide hw3
  clear hw3
  have s0 : w3.cell? ⟨w.heap.size + 1, 0, none⟩ = some (.int .i64 6) := by simp [World.cell?, X1]
  have s1 : w3.cell? ⟨w.heap.size + 1, 1, none⟩ = some (.int .i64 (i : Int)) := by simp [World.cell?, X1]
  have s2 : w3.cell? ⟨w.heap.size + 1, 2, none⟩ = some (.string ByteArray.empty) := by simp [World.cell?, X1]
  obtain ⟨g0, g1, g2, g3, g4, g5⟩ := blk6 X0
  have hWx := hW.below BX0
  have hRB : RB w3 (fun q => S q ∨ q = w.heap.size) w.heap.size r := ⟨V, _, _, _, _, by rw [X0, hdn, ← hn, ← hny, ← hnc, ← hE, hj], hWx.mono (fun q hq => .inl hq), .inr rfl⟩
  have HWX := hide (hWx.mono (S' := fun q => S q ∨ q = w.heap.size) (fun q hq => .inl hq))
  have HBX : Hid (w3.heap[w.heap.size]? = some (rbO (.slice (some ⟨gb, 0, none⟩) r.G.length cg) (.slice (some ⟨db, 0, none⟩) r.dn.length cd) r.ld r.ep (.slice ay r.sy.length cy) (.slice ac r.ce.length cc))) := hide (by rw [X0, hdn, ← hn, ← hny, ← hnc, ← hE, hj])
  have hS3 : ∀ q, (S q ∨ q = w.heap.size) → q < w3.heap.size := fun q hq => by
    rcases hq with hq | hq
    · have := hS q hq; omega
    · omega
  have OUT := hide (fun R w5 (hD : Done (fun q => S q ∨ q = w.heap.size) w3 w.heap.size R w5) (hIR : Inv R) => sdo_out hS BX0 ⟨Nat.le_refl _, by omega⟩ ⟨by omega, by omega⟩ X2 hD hIR)
  have ci := hWx.downAt i (by omega)
  have cj := hWx.downAt j (by omega)
  obtain ⟨x, hx⟩ : ∃ x, x = r.dn.getD i false := ⟨_, rfl⟩
  have HX : Hid (r.down (i : Int) = x) := hide hx.symm
  rw [← hx] at ci
  obtain ⟨y, hy⟩ : ∃ y, y = r.dn.getD j false := ⟨_, rfl⟩
  have HY : Hid (r.down r.ld = y) := hide (by rw [hj]; exact hy.symm)
  rw [← hy] at cj
  obtain ⟨bi, hbi⟩ : ∃ bi : Bool, bi = true ↔ (i : Int) ∈ r.sy := ⟨decide ((i : Int) ∈ r.sy), by simp⟩
  have HBI := hide hbi
  have HLD := hide hj
  have HEP := hide hE
  have HI := hide hI
  have HRB := hide hRB
  have HO := hide ho
  have he0 : 1 ≤ E := by rw [hE]; exact hI.good.e0
  have he1 : E ≤ 1000 := by rw [hE]; exact hI.good.e1
  have hy6 := hzz.y2
  rw [← hny] at hy6
  have CI := hide (L4.l1Has_any ay r.sy ny cy (i : Int) w3 hny.symm hWx.rps.1.y hy6 bi hbi)
  have fz : ∀ c, w3.frozen? ⟨w.heap.size, c, none⟩ = false := fun c => frz X0 c
  have fd : ∀ c, w3.frozen? ⟨db, c, none⟩ = false := fun c => own_frz hWx.d c
  have fg : ∀ c, w3.frozen? ⟨gb, c, none⟩ = false := fun c => own_frz hWx.g c
  obtain ⟨z0, z1, z2, z3, z4, z5⟩ := blk6 X2
  have zf : ∀ c, w3.frozen? ⟨w.heap.size + 2, c, none⟩ = false := fun c => frz X2 c
  have hiI : (i : Int) < (n : Int) := by omega
  have hi0 : (0 : Int) ≤ (i : Int) := by omega
  have hi0' : ¬ (i : Int) < 0 := by omega
  have hiI' : ¬ (n : Int) ≤ (i : Int) := by omega
  have hjI : (j : Int) < (n : Int) := by omega
  have hj0 : (0 : Int) ≤ (j : Int) := by omega
  have HB0 := hide BX0
  have hdb : db < w3.heap.size := blk_lt9 ci
  have hgb : gb < w3.heap.size := by obtain ⟨_, _, _, hc, _⟩ := hWx.logAt i (by omega); exact blk_lt9 hc
  have hp0 : w.heap.size < w3.heap.size := by omega
  have hp2 : w.heap.size + 2 < w3.heap.size := by omega
  rw [hdn, ← hn, ← hny, ← hnc, ← hE, hj]
  have SAME := hide (fun w5 (h5 : Below w.heap.size w w5) v0 v1 v2 v3 v4 v5 => sdo_same (z := w.heap.size + 2) hW hS h5 (by omega) false v0 v1 v2 v3 v4 v5)
  simp only [hdn, ← hn, ← hny, ← hnc, ← hE, hj] at SAME
  clear hx hy hbi hj hE hny hnc hn ho hI hW hWx hRB hzz hdn hn1 hnode X0 X1 X2 hy6 BX0 ht
  go_enter Try.func80, Try.ntmps80
  go_upto_region 1 with fail
  rw [← HW3.out]
  go_wp2_with fail
  refine CI.out.mono ?_
  rintro e w4 ⟨rfl, hb4⟩
  replace g0 := (hb4.cell (blk_lt9 g0)).trans g0
  replace g1 := (hb4.cell (blk_lt9 g1)).trans g1
  replace g2 := (hb4.cell (blk_lt9 g2)).trans g2
  replace g3 := (hb4.cell (blk_lt9 g3)).trans g3
  replace g4 := (hb4.cell (blk_lt9 g4)).trans g4
  replace g5 := (hb4.cell (blk_lt9 g5)).trans g5
  replace s0 := (hb4.cell (blk_lt9 s0)).trans s0
  replace s1 := (hb4.cell (blk_lt9 s1)).trans s1
  replace s2 := (hb4.cell (blk_lt9 s2)).trans s2
  replace ci := (hb4.cell (blk_lt9 ci)).trans ci
  replace cj := (hb4.cell (blk_lt9 cj)).trans cj
  replace z0 := (hb4.cell (blk_lt9 z0)).trans z0
  replace z1 := (hb4.cell (blk_lt9 z1)).trans z1
  replace z2 := (hb4.cell (blk_lt9 z2)).trans z2
  replace z3 := (hb4.cell (blk_lt9 z3)).trans z3
  replace z4 := (hb4.cell (blk_lt9 z4)).trans z4
  replace z5 := (hb4.cell (blk_lt9 z5)).trans z5
  replace fz : ∀ c, w4.frozen? ⟨w.heap.size, c, none⟩ = false := fun c => (World.frozen?_of_block (a := ⟨w.heap.size, c, none⟩) (hb4.block _ hp0)).trans (fz c)
  replace fd : ∀ c, w4.frozen? ⟨db, c, none⟩ = false := fun c => (World.frozen?_of_block (a := ⟨db, c, none⟩) (hb4.block _ hdb)).trans (fd c)
  replace fg : ∀ c, w4.frozen? ⟨gb, c, none⟩ = false := fun c => (World.frozen?_of_block (a := ⟨gb, c, none⟩) (hb4.block _ hgb)).trans (fg c)
  replace zf : ∀ c, w4.frozen? ⟨w.heap.size + 2, c, none⟩ = false := fun c => (World.frozen?_of_block (a := ⟨w.heap.size + 2, c, none⟩) (hb4.block _ hp2)).trans (zf c)
  have HB4 := hide hb4
  have HBW := hide (HB0.out.trans (hb4.mono HB0.out.size))
  clear hb4 CI
  cases x with
  | false =>
    have hoo := HO.out
    rw [if_neg (fun h => by rw [HX.out] at h; cases h)] at hoo
    subst hoo
    go_wp2
    refine bodyPost_ret (v := .tuple #[rpV (some ⟨gb, 0, none⟩) n cg (some ⟨db, 0, none⟩) n cd (j : Int) E ay ny cy ac nc cc, .bool false]) (by simp [results, Try.f80, go_sem, z0, z1, z2, z3, z4, z5]) rfl ?_
    exact SAME.out _ (HBW.out) _ _ _ _ _ _

  | true =>
    have hoo := HO.out
    rw [if_pos (HX.out)] at hoo
    obtain ⟨R, hR⟩ : ∃ R, R = { r with dn := r.dn.set i false } := ⟨_, rfl⟩
    have hIR : Inv R := by rw [hR]; exact HI.out.downs _ (by simp)
    go_upto_region 31 with fail
    have hD := done_down HWX.out HBX.out (.inr rfl) HB4.out db cd rfl i false
    obtain ⟨w5, hw5⟩ : ∃ w5, w5 = w4.setCell ⟨db, i, none⟩ (.bool false) := ⟨_, rfl⟩
    rw [← hw5] at hD ⊢
    rw [← hR] at hD
    have e0 : o = some R := by rw [hoo, hR]; first | done | rfl
    subst e0
    clear hw5 hoo hR
    obtain ⟨gb', cg', db', cd', ay', cy', ac', cc', hb5, hz5, fin⟩ := OUT.out R w5 hD hIR
    obtain ⟨k0, k1, k2, k3, k4, k5⟩ := blk6 hb5
    obtain ⟨y0, y1, y2, y3, y4, y5⟩ := blk6 hz5
    have yf : ∀ c, w5.frozen? ⟨w.heap.size + 2, c, none⟩ = false := fun c => frz hz5 c
    obtain ⟨n1, hn1⟩ : ∃ x, x = R.G.length := ⟨_, rfl⟩
    obtain ⟨n2, hn2⟩ : ∃ x, x = R.dn.length := ⟨_, rfl⟩
    obtain ⟨n3, hn3⟩ : ∃ x, x = R.sy.length := ⟨_, rfl⟩
    obtain ⟨n4, hn4⟩ : ∃ x, x = R.ce.length := ⟨_, rfl⟩
    obtain ⟨x1, hx1⟩ : ∃ x, x = R.ld := ⟨_, rfl⟩
    obtain ⟨x2, hx2⟩ : ∃ x, x = R.ep := ⟨_, rfl⟩
    have FIN := hide fin
    simp only [← hn1, ← hn2, ← hn3, ← hn4, ← hx1, ← hx2] at FIN k0 k1 k2 k3 k4 k5
    clear hn1 hn2 hn3 hn4 hx1 hx2 hb5 hz5 fin hD hIR g0 g1 g2 g3 g4 g5 z0 z1 z2 z3 z4 z5
    go_wp2
    refine bodyPost_ret (v := .tuple #[rpV (some ⟨gb', 0, none⟩) n1 cg' (some ⟨db', 0, none⟩) n2 cd' x1 x2 ay' n3 cy' ac' n4 cc', .bool true]) (by simp [results, Try.f80, go_sem, y0, y1, y2, y3, y4, y5]) rfl ?_
    exact FIN.out _ _ _ _ _ _
end Go.Proofs.Ythmekhhfihjclbd.L9

namespace Go.Proofs.Ythmekhhfihjclbd.L9
open Go.RowKit L1 L7
set_option linter.unusedVariables false

set_option maxRecDepth 100000 in
set_option maxHeartbeats 2000000 in
theorem sdo_7 (S : Nat → Prop) (V : List Value) (gb cg db cd : Nat) (ay : Option Addr) (cy : Nat) (ac : Option Addr) (cc : Nat) (r : Rm) (w : World) (hI : Inv r) (hW : RW w S V (.slice (some ⟨gb, 0, none⟩) r.G.length cg) (.slice (some ⟨db, 0, none⟩) r.dn.length cd) (.slice ay r.sy.length cy) (.slice ac r.ce.length cc) r) (hS : ∀ q, S q → q < w.heap.size) (nd : Int) (t : ByteArray) (ht : t.size = 0) (h0 : 0 ≤ nd) (h1 : nd < (r.G.length : Int)) (o : Option Rm) (ho : o = if nd ∈ r.sy ∧ r.down nd = false ∧ r.ep ≠ 1000 then some { r with ld := nd, ep := r.ep + 1 } else none) :
    Calls Try.prog 80 #[rpV (some ⟨gb, 0, none⟩) r.G.length cg (some ⟨db, 0, none⟩) r.dn.length cd r.ld r.ep ay r.sy.length cy ac r.ce.length cc, .agg #[.int .i64 7, .int .i64 nd, .string t]] w fun e w' => SDo S w (o.getD r) o.isSome e w' := by
  obtain rfl := empty_of ht
  have hnode := hI.node
  have hdn := hI.good.down
  have hn1 := hI.good.logs.1
  have hzz := rpz_of hI
  obtain ⟨i, rfl⟩ : ∃ i : Nat, nd = (i : Int) := ⟨nd.toNat, by omega⟩
  obtain ⟨j, hj⟩ : ∃ j : Nat, r.ld = (j : Int) := ⟨r.ld.toNat, by omega⟩
  obtain ⟨n, hn⟩ : ∃ n, n = r.G.length := ⟨_, rfl⟩
  obtain ⟨ny, hny⟩ : ∃ ny, ny = r.sy.length := ⟨_, rfl⟩
  obtain ⟨nc, hnc⟩ : ∃ nc, nc = r.ce.length := ⟨_, rfl⟩
  obtain ⟨E, hE⟩ : ∃ E, E = r.ep := ⟨_, rfl⟩
  have hin : i < n := by omega
  have hjn : j < n := by omega
  obtain ⟨hsz3, X0, X1, X2, BX0⟩ := alloc3 w (Obj.cells #[.slice (some ⟨gb, 0, none⟩) n cg, .slice (some ⟨db, 0, none⟩) n cd, .int .i64 (j : Int), .int .i64 E, .slice ay ny cy, .slice ac nc cc] 32) (Obj.cells #[.int .i64 7, .int .i64 (i : Int), .string ByteArray.empty] 50) zR
  obtain ⟨w3, hw3⟩ : ∃ w3, w3 = ((w.alloc (Obj.cells #[.slice (some ⟨gb, 0, none⟩) n cg, .slice (some ⟨db, 0, none⟩) n cd, .int .i64 (j : Int), .int .i64 E, .slice ay ny cy, .slice ac nc cc] 32)).alloc (Obj.cells #[.int .i64 7, .int .i64 (i : Int), .string ByteArray.empty] 50)).alloc zR := ⟨_, rfl⟩
  rw [← hw3] at hsz3 X0 X1 X2 BX0
  have HW3 := hide hw3
  clear hw3
  have s0 : w3.cell? ⟨w.heap.size + 1, 0, none⟩ = some (.int .i64 7) := by simp [World.cell?, X1]
  have s1 : w3.cell? ⟨w.heap.size + 1, 1, none⟩ = some (.int .i64 (i : Int)) := by simp [World.cell?, X1]
  have s2 : w3.cell? ⟨w.heap.size + 1, 2, none⟩ = some (.string ByteArray.empty) := by simp [World.cell?, X1]
  obtain ⟨g0, g1, g2, g3, g4, g5⟩ := blk6 X0
  have hWx := hW.below BX0
  have hRB : RB w3 (fun q => S q ∨ q = w.heap.size) w.heap.size r := ⟨V, _, _, _, _, by rw [X0, hdn, ← hn, ← hny, ← hnc, ← hE, hj], hWx.mono (fun q hq => .inl hq), .inr rfl⟩
  have HWX := hide (hWx.mono (S' := fun q => S q ∨ q = w.heap.size) (fun q hq => .inl hq))
  have HBX : Hid (w3.heap[w.heap.size]? = some (rbO (.slice (some ⟨gb, 0, none⟩) r.G.length cg) (.slice (some ⟨db, 0, none⟩) r.dn.length cd) r.ld r.ep (.slice ay r.sy.length cy) (.slice ac r.ce.length cc))) := hide (by rw [X0, hdn, ← hn, ← hny, ← hnc, ← hE, hj])
  have hS3 : ∀ q, (S q ∨ q = w.heap.size) → q < w3.heap.size := fun q hq => by
    rcases hq with hq | hq
    · have := hS q hq; omega
    · omega
  have OUT := hide (fun R w5 (hD : Done (fun q => S q ∨ q = w.heap.size) w3 w.heap.size R w5) (hIR : Inv R) => sdo_out hS BX0 ⟨Nat.le_refl _, by omega⟩ ⟨by omega, by omega⟩ X2 hD hIR)
  have ci := hWx.downAt i (by omega)
  have cj := hWx.downAt j (by omega)
  obtain ⟨x, hx⟩ : ∃ x, x = r.dn.getD i false := ⟨_, rfl⟩
  have HX : Hid (r.down (i : Int) = x) := hide hx.symm
  rw [← hx] at ci
  obtain ⟨y, hy⟩ : ∃ y, y = r.dn.getD j false := ⟨_, rfl⟩
  have HY : Hid (r.down r.ld = y) := hide (by rw [hj]; exact hy.symm)
  rw [← hy] at cj
  obtain ⟨bi, hbi⟩ : ∃ bi : Bool, bi = true ↔ (i : Int) ∈ r.sy := ⟨decide ((i : Int) ∈ r.sy), by simp⟩
  have HBI := hide hbi
  have HLD := hide hj
  have HEP := hide hE
  have HI := hide hI
  have HRB := hide hRB
  have HO := hide ho
  have he0 : 1 ≤ E := by rw [hE]; exact hI.good.e0
  have he1 : E ≤ 1000 := by rw [hE]; exact hI.good.e1
  have hy6 := hzz.y2
  rw [← hny] at hy6
  have CI := hide (L4.l1Has_any ay r.sy ny cy (i : Int) w3 hny.symm hWx.rps.1.y hy6 bi hbi)
  have fz : ∀ c, w3.frozen? ⟨w.heap.size, c, none⟩ = false := fun c => frz X0 c
  have fd : ∀ c, w3.frozen? ⟨db, c, none⟩ = false := fun c => own_frz hWx.d c
  have fg : ∀ c, w3.frozen? ⟨gb, c, none⟩ = false := fun c => own_frz hWx.g c
  obtain ⟨z0, z1, z2, z3, z4, z5⟩ := blk6 X2
  have zf : ∀ c, w3.frozen? ⟨w.heap.size + 2, c, none⟩ = false := fun c => frz X2 c
  have hiI : (i : Int) < (n : Int) := by omega
  have hi0 : (0 : Int) ≤ (i : Int) := by omega
  have hi0' : ¬ (i : Int) < 0 := by omega
  have hiI' : ¬ (n : Int) ≤ (i : Int) := by omega
  have hjI : (j : Int) < (n : Int) := by omega
  have hj0 : (0 : Int) ≤ (j : Int) := by omega
  have HB0 := hide BX0
  have hdb : db < w3.heap.size := blk_lt9 ci
  have hgb : gb < w3.heap.size := by obtain ⟨_, _, _, hc, _⟩ := hWx.logAt i (by omega); exact blk_lt9 hc
  have hp0 : w.heap.size < w3.heap.size := by omega
  have hp2 : w.heap.size + 2 < w3.heap.size := by omega
  rw [hdn, ← hn, ← hny, ← hnc, ← hE, hj]
  have SAME := hide (fun w5 (h5 : Below w.heap.size w w5) v0 v1 v2 v3 v4 v5 => sdo_same (z := w.heap.size + 2) hW hS h5 (by omega) false v0 v1 v2 v3 v4 v5)
  simp only [hdn, ← hn, ← hny, ← hnc, ← hE, hj] at SAME
  clear hx hy hbi hj hE hny hnc hn ho hI hW hWx hRB hzz hdn hn1 hnode X0 X1 X2 hy6 BX0 ht
  go_enter Try.func80, Try.ntmps80
  go_upto_region 1 with fail
  rw [← HW3.out]
  go_wp2_with fail
  refine CI.out.mono ?_
  rintro e w4 ⟨rfl, hb4⟩
  replace g0 := (hb4.cell (blk_lt9 g0)).trans g0
  replace g1 := (hb4.cell (blk_lt9 g1)).trans g1
  replace g2 := (hb4.cell (blk_lt9 g2)).trans g2
  replace g3 := (hb4.cell (blk_lt9 g3)).trans g3
  replace g4 := (hb4.cell (blk_lt9 g4)).trans g4
  replace g5 := (hb4.cell (blk_lt9 g5)).trans g5
  replace s0 := (hb4.cell (blk_lt9 s0)).trans s0
  replace s1 := (hb4.cell (blk_lt9 s1)).trans s1
  replace s2 := (hb4.cell (blk_lt9 s2)).trans s2
  replace ci := (hb4.cell (blk_lt9 ci)).trans ci
  replace cj := (hb4.cell (blk_lt9 cj)).trans cj
  replace z0 := (hb4.cell (blk_lt9 z0)).trans z0
  replace z1 := (hb4.cell (blk_lt9 z1)).trans z1
  replace z2 := (hb4.cell (blk_lt9 z2)).trans z2
  replace z3 := (hb4.cell (blk_lt9 z3)).trans z3
  replace z4 := (hb4.cell (blk_lt9 z4)).trans z4
  replace z5 := (hb4.cell (blk_lt9 z5)).trans z5
  replace fz : ∀ c, w4.frozen? ⟨w.heap.size, c, none⟩ = false := fun c => (World.frozen?_of_block (a := ⟨w.heap.size, c, none⟩) (hb4.block _ hp0)).trans (fz c)
  replace fd : ∀ c, w4.frozen? ⟨db, c, none⟩ = false := fun c => (World.frozen?_of_block (a := ⟨db, c, none⟩) (hb4.block _ hdb)).trans (fd c)
  replace fg : ∀ c, w4.frozen? ⟨gb, c, none⟩ = false := fun c => (World.frozen?_of_block (a := ⟨gb, c, none⟩) (hb4.block _ hgb)).trans (fg c)
  replace zf : ∀ c, w4.frozen? ⟨w.heap.size + 2, c, none⟩ = false := fun c => (World.frozen?_of_block (a := ⟨w.heap.size + 2, c, none⟩) (hb4.block _ hp2)).trans (zf c)
  have HB4 := hide hb4
  have HBW := hide (HB0.out.trans (hb4.mono HB0.out.size))
  clear hb4 CI
  cases bi with
  | false =>
    have hoo := HO.out
    rw [if_neg (fun h => by have := HBI.out.2 h.1; cases this)] at hoo
    subst hoo
    go_wp2
    refine bodyPost_ret (v := .tuple #[rpV (some ⟨gb, 0, none⟩) n cg (some ⟨db, 0, none⟩) n cd (j : Int) E ay ny cy ac nc cc, .bool false]) (by simp [results, Try.f80, go_sem, z0, z1, z2, z3, z4, z5]) rfl ?_
    exact SAME.out _ (HBW.out) _ _ _ _ _ _

  | true =>
    cases x with
    | true =>
      have hoo := HO.out
      rw [if_neg (fun h => by have h2 := h.2.1; rw [HX.out] at h2; cases h2)] at hoo
      subst hoo
      go_wp2
      refine bodyPost_ret (v := .tuple #[rpV (some ⟨gb, 0, none⟩) n cg (some ⟨db, 0, none⟩) n cd (j : Int) E ay ny cy ac nc cc, .bool false]) (by simp [results, Try.f80, go_sem, z0, z1, z2, z3, z4, z5]) rfl ?_
      exact SAME.out _ (HBW.out) _ _ _ _ _ _

    | false =>
      by_cases hE1 : E = 1000
      · have hE3 : ¬ E < 1000 := by omega
        have hE4 : decide (E < 1000) = false := by simp; omega
        have HE1 := hide hE1
        clear hE1
        have hoo := HO.out
        rw [if_neg (fun h => h.2.2 (HEP.out.symm.trans HE1.out))] at hoo
        subst hoo
        go_wp2
        refine bodyPost_ret (v := .tuple #[rpV (some ⟨gb, 0, none⟩) n cg (some ⟨db, 0, none⟩) n cd (j : Int) E ay ny cy ac nc cc, .bool false]) (by simp [results, Try.f80, go_sem, z0, z1, z2, z3, z4, z5]) rfl ?_
        exact SAME.out _ (HBW.out) _ _ _ _ _ _

      · have hE2 : E < 1000 := by omega
        have hoo := HO.out
        rw [if_pos (⟨HBI.out.1 (by first | rfl | trivial), HX.out, fun h => hE1 (HEP.out.trans h)⟩)] at hoo
        obtain ⟨R, hR⟩ : ∃ R, R = { r with ld := (i : Int), ep := r.ep + 1 } := ⟨_, rfl⟩
        have hIR : Inv R := by rw [hR]; exact HI.out.elect _ (HBI.out.1 (by first | rfl | trivial)) (by rw [← HEP.out]; exact hE2)
        go_upto_region 31 with fail
        have hD := (by rw [← HEP.out]; exact done_elect HWX.out HBX.out (.inr rfl) HB4.out (i : Int) (E + 1) : Done (fun q => S q ∨ q = w.heap.size) w3 w.heap.size { r with ld := (i : Int), ep := r.ep + 1 } ((w4.setCell ⟨w.heap.size, 2, none⟩ (.int .i64 (i : Int))).setCell ⟨w.heap.size, 3, none⟩ (.int .i64 (E + 1))))
        obtain ⟨w5, hw5⟩ : ∃ w5, w5 = (w4.setCell ⟨w.heap.size, 2, none⟩ (.int .i64 (i : Int))).setCell ⟨w.heap.size, 3, none⟩ (.int .i64 (E + 1)) := ⟨_, rfl⟩
        rw [← hw5] at hD ⊢
        rw [← hR] at hD
        have e0 : o = some R := by rw [hoo, hR]; first | done | rfl
        subst e0
        clear hw5 hoo hR
        obtain ⟨gb', cg', db', cd', ay', cy', ac', cc', hb5, hz5, fin⟩ := OUT.out R w5 hD hIR
        obtain ⟨k0, k1, k2, k3, k4, k5⟩ := blk6 hb5
        obtain ⟨y0, y1, y2, y3, y4, y5⟩ := blk6 hz5
        have yf : ∀ c, w5.frozen? ⟨w.heap.size + 2, c, none⟩ = false := fun c => frz hz5 c
        obtain ⟨n1, hn1⟩ : ∃ x, x = R.G.length := ⟨_, rfl⟩
        obtain ⟨n2, hn2⟩ : ∃ x, x = R.dn.length := ⟨_, rfl⟩
        obtain ⟨n3, hn3⟩ : ∃ x, x = R.sy.length := ⟨_, rfl⟩
        obtain ⟨n4, hn4⟩ : ∃ x, x = R.ce.length := ⟨_, rfl⟩
        obtain ⟨x1, hx1⟩ : ∃ x, x = R.ld := ⟨_, rfl⟩
        obtain ⟨x2, hx2⟩ : ∃ x, x = R.ep := ⟨_, rfl⟩
        have FIN := hide fin
        simp only [← hn1, ← hn2, ← hn3, ← hn4, ← hx1, ← hx2] at FIN k0 k1 k2 k3 k4 k5
        clear hn1 hn2 hn3 hn4 hx1 hx2 hb5 hz5 fin hD hIR g0 g1 g2 g3 g4 g5 z0 z1 z2 z3 z4 z5
        go_wp2
        refine bodyPost_ret (v := .tuple #[rpV (some ⟨gb', 0, none⟩) n1 cg' (some ⟨db', 0, none⟩) n2 cd' x1 x2 ay' n3 cy' ac' n4 cc', .bool true]) (by simp [results, Try.f80, go_sem, y0, y1, y2, y3, y4, y5]) rfl ?_
        exact FIN.out _ _ _ _ _ _
end Go.Proofs.Ythmekhhfihjclbd.L9

namespace Go.Proofs.Ythmekhhfihjclbd.L9
open Go.RowKit L1 L7
set_option linter.unusedVariables false

set_option maxRecDepth 100000 in
set_option maxHeartbeats 2000000 in
theorem sdo_bad (S : Nat → Prop) (V : List Value) (gb cg db cd : Nat) (ay : Option Addr) (cy : Nat) (ac : Option Addr) (cc : Nat) (r : Rm) (w : World) (hI : Inv r) (hW : RW w S V (.slice (some ⟨gb, 0, none⟩) r.G.length cg) (.slice (some ⟨db, 0, none⟩) r.dn.length cd) (.slice ay r.sy.length cy) (.slice ac r.ce.length cc) r) (hS : ∀ q, S q → q < w.heap.size) (kd nd : Int) (t : ByteArray) (hk1 : kd ≠ 1) (hbad : t.size ≠ 0 ∨ nd < 0 ∨ (r.G.length : Int) ≤ nd) :
    Calls Try.prog 80 #[rpV (some ⟨gb, 0, none⟩) r.G.length cg (some ⟨db, 0, none⟩) r.dn.length cd r.ld r.ep ay r.sy.length cy ac r.ce.length cc, .agg #[.int .i64 kd, .int .i64 nd, .string t]] w fun e w' => SDo S w r false e w' := by
  have hnode := hI.node
  have hdn := hI.good.down
  have hn1 := hI.good.logs.1
  have hzz := rpz_of hI
  obtain ⟨j, hj⟩ : ∃ j : Nat, r.ld = (j : Int) := ⟨r.ld.toNat, by omega⟩
  obtain ⟨n, hn⟩ : ∃ n, n = r.G.length := ⟨_, rfl⟩
  obtain ⟨ny, hny⟩ : ∃ ny, ny = r.sy.length := ⟨_, rfl⟩
  obtain ⟨nc, hnc⟩ : ∃ nc, nc = r.ce.length := ⟨_, rfl⟩
  obtain ⟨E, hE⟩ : ∃ E, E = r.ep := ⟨_, rfl⟩
  have hjn : j < n := by omega
  obtain ⟨hsz3, X0, X1, X2, BX0⟩ := alloc3 w (Obj.cells #[.slice (some ⟨gb, 0, none⟩) n cg, .slice (some ⟨db, 0, none⟩) n cd, .int .i64 (j : Int), .int .i64 E, .slice ay ny cy, .slice ac nc cc] 32) (Obj.cells #[.int .i64 kd, .int .i64 nd, .string t] 50) zR
  obtain ⟨w3, hw3⟩ : ∃ w3, w3 = ((w.alloc (Obj.cells #[.slice (some ⟨gb, 0, none⟩) n cg, .slice (some ⟨db, 0, none⟩) n cd, .int .i64 (j : Int), .int .i64 E, .slice ay ny cy, .slice ac nc cc] 32)).alloc (Obj.cells #[.int .i64 kd, .int .i64 nd, .string t] 50)).alloc zR := ⟨_, rfl⟩
  rw [← hw3] at hsz3 X0 X1 X2 BX0
  have HW3 := hide hw3
  clear hw3
  have s0 : w3.cell? ⟨w.heap.size + 1, 0, none⟩ = some (.int .i64 kd) := by simp [World.cell?, X1]
  have s1 : w3.cell? ⟨w.heap.size + 1, 1, none⟩ = some (.int .i64 nd) := by simp [World.cell?, X1]
  have s2 : w3.cell? ⟨w.heap.size + 1, 2, none⟩ = some (.string t) := by simp [World.cell?, X1]
  obtain ⟨g0, g1, g2, g3, g4, g5⟩ := blk6 X0
  have hWx := hW.below BX0
  have hRB : RB w3 (fun q => S q ∨ q = w.heap.size) w.heap.size r := ⟨V, _, _, _, _, by rw [X0, hdn, ← hn, ← hny, ← hnc, ← hE, hj], hWx.mono (fun q hq => .inl hq), .inr rfl⟩
  have HWX := hide (hWx.mono (S' := fun q => S q ∨ q = w.heap.size) (fun q hq => .inl hq))
  have HBX : Hid (w3.heap[w.heap.size]? = some (rbO (.slice (some ⟨gb, 0, none⟩) r.G.length cg) (.slice (some ⟨db, 0, none⟩) r.dn.length cd) r.ld r.ep (.slice ay r.sy.length cy) (.slice ac r.ce.length cc))) := hide (by rw [X0, hdn, ← hn, ← hny, ← hnc, ← hE, hj])
  have hS3 : ∀ q, (S q ∨ q = w.heap.size) → q < w3.heap.size := fun q hq => by
    rcases hq with hq | hq
    · have := hS q hq; omega
    · omega
  have OUT := hide (fun R w5 (hD : Done (fun q => S q ∨ q = w.heap.size) w3 w.heap.size R w5) (hIR : Inv R) => sdo_out hS BX0 ⟨Nat.le_refl _, by omega⟩ ⟨by omega, by omega⟩ X2 hD hIR)
  have cj := hWx.downAt j (by omega)
  obtain ⟨y, hy⟩ : ∃ y, y = r.dn.getD j false := ⟨_, rfl⟩
  have HY : Hid (r.down r.ld = y) := hide (by rw [hj]; exact hy.symm)
  rw [← hy] at cj
  have HLD := hide hj
  have HEP := hide hE
  have HI := hide hI
  have HRB := hide hRB
  have he0 : 1 ≤ E := by rw [hE]; exact hI.good.e0
  have he1 : E ≤ 1000 := by rw [hE]; exact hI.good.e1
  have hy6 := hzz.y2
  rw [← hny] at hy6
  have fz : ∀ c, w3.frozen? ⟨w.heap.size, c, none⟩ = false := fun c => frz X0 c
  have fd : ∀ c, w3.frozen? ⟨db, c, none⟩ = false := fun c => own_frz hWx.d c
  have fg : ∀ c, w3.frozen? ⟨gb, c, none⟩ = false := fun c => own_frz hWx.g c
  obtain ⟨z0, z1, z2, z3, z4, z5⟩ := blk6 X2
  have zf : ∀ c, w3.frozen? ⟨w.heap.size + 2, c, none⟩ = false := fun c => frz X2 c
  have hjI : (j : Int) < (n : Int) := by omega
  have hj0 : (0 : Int) ≤ (j : Int) := by omega
  have HB0 := hide BX0
  have hgb : gb < w3.heap.size := by obtain ⟨_, _, _, hc, _⟩ := hWx.logAt j (by omega); exact blk_lt9 hc
  have hp0 : w.heap.size < w3.heap.size := by omega
  have hp2 : w.heap.size + 2 < w3.heap.size := by omega
  rw [hdn, ← hn, ← hny, ← hnc, ← hE, hj]
  have SAME := hide (fun w5 (h5 : Below w.heap.size w w5) v0 v1 v2 v3 v4 v5 => sdo_same (z := w.heap.size + 2) hW hS h5 (by omega) false v0 v1 v2 v3 v4 v5)
  simp only [hdn, ← hn, ← hny, ← hnc, ← hE, hj] at SAME

  have hkk : (kd == 1) = false := by simp [hk1]
  rw [← hn] at hbad
  clear hy hj hE hny hnc hn hI hW hWx hRB hzz hdn hn1 hnode X0 X1 X2 hy6 BX0
  by_cases hs : t.size = 0
  · obtain rfl := empty_of hs
    by_cases h0 : nd < 0
    · have h0d : decide (nd < 0) = true := by simp [h0]
      go_enter Try.func80, Try.ntmps80
      go_upto_region 1 with fail
      rw [← HW3.out]
      go_wp2
      refine bodyPost_ret (v := .tuple #[rpV (some ⟨gb, 0, none⟩) n cg (some ⟨db, 0, none⟩) n cd (j : Int) E ay ny cy ac nc cc, .bool false]) (by simp [results, Try.f80, go_sem, z0, z1, z2, z3, z4, z5]) rfl ?_
      exact SAME.out _ (HB0.out) _ _ _ _ _ _

    · have h0d : decide (nd < 0) = false := by simp; omega
      have h1 : (n : Int) ≤ nd := by omega
      have h1d : decide ((n : Int) ≤ nd) = true := by simp [h1]
      go_enter Try.func80, Try.ntmps80
      go_upto_region 1 with fail
      rw [← HW3.out]
      go_wp2
      refine bodyPost_ret (v := .tuple #[rpV (some ⟨gb, 0, none⟩) n cg (some ⟨db, 0, none⟩) n cd (j : Int) E ay ny cy ac nc cc, .bool false]) (by simp [results, Try.f80, go_sem, z0, z1, z2, z3, z4, z5]) rfl ?_
      exact SAME.out _ (HB0.out) _ _ _ _ _ _

  · have hne : t ≠ ByteArray.empty := fun e => hs (by rw [e]; rfl)
    have hne2 := text_neS hne
    have hne3 : t.toList.isEmpty = false := by
      cases h : t.toList with
      | nil => rw [h] at hne2; exact absurd hne2 (by simp)
      | cons a l => rfl
    go_enter Try.func80, Try.ntmps80
    go_upto_region 1 with fail
    rw [← HW3.out]
    go_wp2
    refine bodyPost_ret (v := .tuple #[rpV (some ⟨gb, 0, none⟩) n cg (some ⟨db, 0, none⟩) n cd (j : Int) E ay ny cy ac nc cc, .bool false]) (by simp [results, Try.f80, go_sem, z0, z1, z2, z3, z4, z5]) rfl ?_
    exact SAME.out _ (HB0.out) _ _ _ _ _ _
set_option maxRecDepth 100000 in
set_option maxHeartbeats 2000000 in
theorem sdo_kind (S : Nat → Prop) (V : List Value) (gb cg db cd : Nat) (ay : Option Addr) (cy : Nat) (ac : Option Addr) (cc : Nat) (r : Rm) (w : World) (hI : Inv r) (hW : RW w S V (.slice (some ⟨gb, 0, none⟩) r.G.length cg) (.slice (some ⟨db, 0, none⟩) r.dn.length cd) (.slice ay r.sy.length cy) (.slice ac r.ce.length cc) r) (hS : ∀ q, S q → q < w.heap.size) (kd nd : Int) (t : ByteArray) (hkd : kd < 1 ∨ 7 < kd) (ht : t.size = 0) (h0 : 0 ≤ nd) (h1 : nd < (r.G.length : Int)) :
    Calls Try.prog 80 #[rpV (some ⟨gb, 0, none⟩) r.G.length cg (some ⟨db, 0, none⟩) r.dn.length cd r.ld r.ep ay r.sy.length cy ac r.ce.length cc, .agg #[.int .i64 kd, .int .i64 nd, .string t]] w fun e w' => SDo S w r false e w' := by
  obtain rfl := empty_of ht
  have hnode := hI.node
  have hdn := hI.good.down
  have hn1 := hI.good.logs.1
  have hzz := rpz_of hI
  obtain ⟨i, rfl⟩ : ∃ i : Nat, nd = (i : Int) := ⟨nd.toNat, by omega⟩
  obtain ⟨j, hj⟩ : ∃ j : Nat, r.ld = (j : Int) := ⟨r.ld.toNat, by omega⟩
  obtain ⟨n, hn⟩ : ∃ n, n = r.G.length := ⟨_, rfl⟩
  obtain ⟨ny, hny⟩ : ∃ ny, ny = r.sy.length := ⟨_, rfl⟩
  obtain ⟨nc, hnc⟩ : ∃ nc, nc = r.ce.length := ⟨_, rfl⟩
  obtain ⟨E, hE⟩ : ∃ E, E = r.ep := ⟨_, rfl⟩
  have hin : i < n := by omega
  have hjn : j < n := by omega
  obtain ⟨hsz3, X0, X1, X2, BX0⟩ := alloc3 w (Obj.cells #[.slice (some ⟨gb, 0, none⟩) n cg, .slice (some ⟨db, 0, none⟩) n cd, .int .i64 (j : Int), .int .i64 E, .slice ay ny cy, .slice ac nc cc] 32) (Obj.cells #[.int .i64 kd, .int .i64 (i : Int), .string ByteArray.empty] 50) zR
  obtain ⟨w3, hw3⟩ : ∃ w3, w3 = ((w.alloc (Obj.cells #[.slice (some ⟨gb, 0, none⟩) n cg, .slice (some ⟨db, 0, none⟩) n cd, .int .i64 (j : Int), .int .i64 E, .slice ay ny cy, .slice ac nc cc] 32)).alloc (Obj.cells #[.int .i64 kd, .int .i64 (i : Int), .string ByteArray.empty] 50)).alloc zR := ⟨_, rfl⟩
  rw [← hw3] at hsz3 X0 X1 X2 BX0
  have HW3 := hide hw3
  clear hw3
  have s0 : w3.cell? ⟨w.heap.size + 1, 0, none⟩ = some (.int .i64 kd) := by simp [World.cell?, X1]
  have s1 : w3.cell? ⟨w.heap.size + 1, 1, none⟩ = some (.int .i64 (i : Int)) := by simp [World.cell?, X1]
  have s2 : w3.cell? ⟨w.heap.size + 1, 2, none⟩ = some (.string ByteArray.empty) := by simp [World.cell?, X1]
  obtain ⟨g0, g1, g2, g3, g4, g5⟩ := blk6 X0
  have hWx := hW.below BX0
  have hRB : RB w3 (fun q => S q ∨ q = w.heap.size) w.heap.size r := ⟨V, _, _, _, _, by rw [X0, hdn, ← hn, ← hny, ← hnc, ← hE, hj], hWx.mono (fun q hq => .inl hq), .inr rfl⟩
  have HWX := hide (hWx.mono (S' := fun q => S q ∨ q = w.heap.size) (fun q hq => .inl hq))
  have HBX : Hid (w3.heap[w.heap.size]? = some (rbO (.slice (some ⟨gb, 0, none⟩) r.G.length cg) (.slice (some ⟨db, 0, none⟩) r.dn.length cd) r.ld r.ep (.slice ay r.sy.length cy) (.slice ac r.ce.length cc))) := hide (by rw [X0, hdn, ← hn, ← hny, ← hnc, ← hE, hj])
  have hS3 : ∀ q, (S q ∨ q = w.heap.size) → q < w3.heap.size := fun q hq => by
    rcases hq with hq | hq
    · have := hS q hq; omega
    · omega
  have OUT := hide (fun R w5 (hD : Done (fun q => S q ∨ q = w.heap.size) w3 w.heap.size R w5) (hIR : Inv R) => sdo_out hS BX0 ⟨Nat.le_refl _, by omega⟩ ⟨by omega, by omega⟩ X2 hD hIR)
  have ci := hWx.downAt i (by omega)
  have cj := hWx.downAt j (by omega)
  obtain ⟨x, hx⟩ : ∃ x, x = r.dn.getD i false := ⟨_, rfl⟩
  have HX : Hid (r.down (i : Int) = x) := hide hx.symm
  rw [← hx] at ci
  obtain ⟨y, hy⟩ : ∃ y, y = r.dn.getD j false := ⟨_, rfl⟩
  have HY : Hid (r.down r.ld = y) := hide (by rw [hj]; exact hy.symm)
  rw [← hy] at cj
  obtain ⟨bi, hbi⟩ : ∃ bi : Bool, bi = true ↔ (i : Int) ∈ r.sy := ⟨decide ((i : Int) ∈ r.sy), by simp⟩
  have HBI := hide hbi
  have HLD := hide hj
  have HEP := hide hE
  have HI := hide hI
  have HRB := hide hRB
  have he0 : 1 ≤ E := by rw [hE]; exact hI.good.e0
  have he1 : E ≤ 1000 := by rw [hE]; exact hI.good.e1
  have hy6 := hzz.y2
  rw [← hny] at hy6
  have CI := hide (L4.l1Has_any ay r.sy ny cy (i : Int) w3 hny.symm hWx.rps.1.y hy6 bi hbi)
  have fz : ∀ c, w3.frozen? ⟨w.heap.size, c, none⟩ = false := fun c => frz X0 c
  have fd : ∀ c, w3.frozen? ⟨db, c, none⟩ = false := fun c => own_frz hWx.d c
  have fg : ∀ c, w3.frozen? ⟨gb, c, none⟩ = false := fun c => own_frz hWx.g c
  obtain ⟨z0, z1, z2, z3, z4, z5⟩ := blk6 X2
  have zf : ∀ c, w3.frozen? ⟨w.heap.size + 2, c, none⟩ = false := fun c => frz X2 c
  have hiI : (i : Int) < (n : Int) := by omega
  have hi0 : (0 : Int) ≤ (i : Int) := by omega
  have hi0' : ¬ (i : Int) < 0 := by omega
  have hiI' : ¬ (n : Int) ≤ (i : Int) := by omega
  have hjI : (j : Int) < (n : Int) := by omega
  have hj0 : (0 : Int) ≤ (j : Int) := by omega
  have HB0 := hide BX0
  have hdb : db < w3.heap.size := blk_lt9 ci
  have hgb : gb < w3.heap.size := by obtain ⟨_, _, _, hc, _⟩ := hWx.logAt i (by omega); exact blk_lt9 hc
  have hp0 : w.heap.size < w3.heap.size := by omega
  have hp2 : w.heap.size + 2 < w3.heap.size := by omega
  rw [hdn, ← hn, ← hny, ← hnc, ← hE, hj]
  have SAME := hide (fun w5 (h5 : Below w.heap.size w w5) v0 v1 v2 v3 v4 v5 => sdo_same (z := w.heap.size + 2) hW hS h5 (by omega) false v0 v1 v2 v3 v4 v5)
  simp only [hdn, ← hn, ← hny, ← hnc, ← hE, hj] at SAME
  have hk1 : (kd == 1) = false := by simp; omega
  have hk2 : (kd == 2) = false := by simp; omega
  have hk3 : (kd == 3) = false := by simp; omega
  have hk4 : (kd == 4) = false := by simp; omega
  have hk5 : (kd == 5) = false := by simp; omega
  have hk6 : (kd == 6) = false := by simp; omega
  have hk7 : (kd == 7) = false := by simp; omega
  clear hx hy hbi hj hE hny hnc hn hI hW hWx hRB hzz hdn hn1 hnode X0 X1 X2 hy6 BX0 ht
  go_enter Try.func80, Try.ntmps80
  go_upto_region 1 with fail
  rw [← HW3.out]
  go_wp2_with fail
  refine CI.out.mono ?_
  rintro e w4 ⟨rfl, hb4⟩
  replace g0 := (hb4.cell (blk_lt9 g0)).trans g0
  replace g1 := (hb4.cell (blk_lt9 g1)).trans g1
  replace g2 := (hb4.cell (blk_lt9 g2)).trans g2
  replace g3 := (hb4.cell (blk_lt9 g3)).trans g3
  replace g4 := (hb4.cell (blk_lt9 g4)).trans g4
  replace g5 := (hb4.cell (blk_lt9 g5)).trans g5
  replace s0 := (hb4.cell (blk_lt9 s0)).trans s0
  replace s1 := (hb4.cell (blk_lt9 s1)).trans s1
  replace s2 := (hb4.cell (blk_lt9 s2)).trans s2
  replace ci := (hb4.cell (blk_lt9 ci)).trans ci
  replace cj := (hb4.cell (blk_lt9 cj)).trans cj
  replace z0 := (hb4.cell (blk_lt9 z0)).trans z0
  replace z1 := (hb4.cell (blk_lt9 z1)).trans z1
  replace z2 := (hb4.cell (blk_lt9 z2)).trans z2
  replace z3 := (hb4.cell (blk_lt9 z3)).trans z3
  replace z4 := (hb4.cell (blk_lt9 z4)).trans z4
  replace z5 := (hb4.cell (blk_lt9 z5)).trans z5
  replace fz : ∀ c, w4.frozen? ⟨w.heap.size, c, none⟩ = false := fun c => (World.frozen?_of_block (a := ⟨w.heap.size, c, none⟩) (hb4.block _ hp0)).trans (fz c)
  replace fd : ∀ c, w4.frozen? ⟨db, c, none⟩ = false := fun c => (World.frozen?_of_block (a := ⟨db, c, none⟩) (hb4.block _ hdb)).trans (fd c)
  replace fg : ∀ c, w4.frozen? ⟨gb, c, none⟩ = false := fun c => (World.frozen?_of_block (a := ⟨gb, c, none⟩) (hb4.block _ hgb)).trans (fg c)
  replace zf : ∀ c, w4.frozen? ⟨w.heap.size + 2, c, none⟩ = false := fun c => (World.frozen?_of_block (a := ⟨w.heap.size + 2, c, none⟩) (hb4.block _ hp2)).trans (zf c)
  have HB4 := hide hb4
  have HBW := hide (HB0.out.trans (hb4.mono HB0.out.size))
  clear hb4 CI
  go_wp2
  refine bodyPost_ret (v := .tuple #[rpV (some ⟨gb, 0, none⟩) n cg (some ⟨db, 0, none⟩) n cd (j : Int) E ay ny cy ac nc cc, .bool false]) (by simp [results, Try.f80, go_sem, z0, z1, z2, z3, z4, z5]) rfl ?_
  exact SAME.out _ (HBW.out) _ _ _ _ _ _
theorem sdo_any (S : Nat → Prop) (V : List Value) (gb cg db cd : Nat) (ay : Option Addr) (cy : Nat) (ac : Option Addr) (cc : Nat) (r : Rm) (w : World) (hI : Inv r) (hW : RW w S V (.slice (some ⟨gb, 0, none⟩) r.G.length cg) (.slice (some ⟨db, 0, none⟩) r.dn.length cd) (.slice ay r.sy.length cy) (.slice ac r.ce.length cc) r) (hS : ∀ q, S q → q < w.heap.size) (kd nd : Int) (t : ByteArray) (ht : t.size ≤ 9223372036854775807) (o : Option Rm) (ho : o = doM r kd nd t) :
    Calls Try.prog 80 #[rpV (some ⟨gb, 0, none⟩) r.G.length cg (some ⟨db, 0, none⟩) r.dn.length cd r.ld r.ep ay r.sy.length cy ac r.ce.length cc, .agg #[.int .i64 kd, .int .i64 nd, .string t]] w fun e w' => SDo S w (o.getD r) o.isSome e w' := by
  by_cases h1 : kd = 1
  · subst h1
    exact sdo_1 S V gb cg db cd ay cy ac cc r w hI hW hS nd t ht o (by rw [ho]; unfold doM; rw [if_pos rfl])
  by_cases hb : t.size = 0 ∧ 0 ≤ nd ∧ nd < (r.G.length : Int)
  · obtain ⟨hb1, hb2, hb3⟩ := hb
    by_cases h2 : kd = 2
    · subst h2
      exact sdo_2 S V gb cg db cd ay cy ac cc r w hI hW hS nd t hb1 hb2 hb3 o (by rw [ho, doM_2 (.inr ⟨⟨by decide, by decide⟩, ⟨hb2, hb3⟩, hb1⟩)])
    by_cases h3 : kd = 3
    · subst h3
      exact sdo_3 S V gb cg db cd ay cy ac cc r w hI hW hS nd t hb1 hb2 hb3 o (by rw [ho, doM_3 (.inr ⟨⟨by decide, by decide⟩, ⟨hb2, hb3⟩, hb1⟩)])
    by_cases h4 : kd = 4
    · subst h4
      exact sdo_4 S V gb cg db cd ay cy ac cc r w hI hW hS nd t hb1 hb2 hb3 o (by rw [ho, doM_4 (.inr ⟨⟨by decide, by decide⟩, ⟨hb2, hb3⟩, hb1⟩)])
    by_cases h5 : kd = 5
    · subst h5
      exact sdo_5 S V gb cg db cd ay cy ac cc r w hI hW hS nd t hb1 hb2 hb3 o (by rw [ho, doM_5 (.inr ⟨⟨by decide, by decide⟩, ⟨hb2, hb3⟩, hb1⟩)])
    by_cases h6 : kd = 6
    · subst h6
      exact sdo_6 S V gb cg db cd ay cy ac cc r w hI hW hS nd t hb1 hb2 hb3 o (by rw [ho, doM_6 (.inr ⟨⟨by decide, by decide⟩, ⟨hb2, hb3⟩, hb1⟩)])
    by_cases h7 : kd = 7
    · subst h7
      exact sdo_7 S V gb cg db cd ay cy ac cc r w hI hW hS nd t hb1 hb2 hb3 o (by rw [ho, doM_7 (.inr ⟨⟨by decide, by decide⟩, ⟨hb2, hb3⟩, hb1⟩)])
    have e0 : o = none := by rw [ho, doM_no (fun h => by rcases h with h | h <;> omega)]
    subst e0
    exact sdo_kind S V gb cg db cd ay cy ac cc r w hI hW hS kd nd t (by omega) hb1 hb2 hb3
  · have e0 : o = none := by rw [ho, doM_no (fun h => hb (by rcases h with h | h <;> omega))]
    subst e0
    exact sdo_bad S V gb cg db cd ay cy ac cc r w hI hW hS kd nd t h1 (by omega)
end Go.Proofs.Ythmekhhfihjclbd.L9

namespace Go.Proofs.Ythmekhhfihjclbd.L9
open Go.RowKit L1 L7
set_option linter.unusedVariables false


open Classical in
set_option maxRecDepth 100000 in
set_option maxHeartbeats 4000000 in
theorem l9Certain_any (ag : Option Addr) (n cg : Nat) (ad : Option Addr) (nd cd : Nat) (ld ep : Int) (ay : Option Addr) (ny cy : Nat) (ac : Option Addr) (nc cc : Nat) (G : List (List En)) (sy : List Int) (ce : List En) (w : World) (hz : RpZ G sy ce n nd ny nc) (hs : RpS w ag ay ac G sy ce) (hg : GoodR G nd ld ep sy ce) :
    Calls Try.prog 70 #[rpV ag n cg ad nd cd ld ep ay ny cy ac nc cc] w fun e w' => e = .returned (.int .i64 (cerL G ld sy : Int)) ∧ Below w.heap.size w w' := by
  obtain ⟨w1, hw1⟩ : ∃ w1, w.alloc (rpO ag n cg ad nd cd ld ep ay ny cy ac nc cc) = w1 := ⟨_, rfl⟩
  have B1 : Hid (Below w.heap.size w w1) := by rw [← hw1]; exact hide ((Below.refl _ _).alloc (Nat.le_refl _) _)
  have G1 : Hid (w1.heap[w.heap.size]? = some (rpO ag n cg ad nd cd ld ep ay ny cy ac nc cc)) := by rw [← hw1]; exact hide (blk_new9 _ _)
  obtain ⟨rr, hrr⟩ : ∃ rr : Int, rr = (cerL G ld sy : Int) := ⟨_, rfl⟩
  rw [← hrr]
  have HRR := hide hrr
  have HG := hide hg
  have HS := hide hs
  have HZ := hide hz
  have HW := hide hw1
  clear hrr hg hs hz hw1
  go_enter Try.func70, Try.ntmps70
  go_upto_region 1 with fail
  rw [HW.out]
  clear HW
  obtain ⟨k0, k1, k2, k3, k4, k5⟩ := blk6 G1.out
  have hnode := HG.out.node
  rw [HZ.out.hn] at hnode
  obtain ⟨b, off, rfl, il, al, cl, hil, hlt0, hcl, hsl⟩ := (HS.out.g.below B1.out).at' ld hnode.1 (by rw [HZ.out.hn]; exact hnode.2)
  subst hil
  have hlls := HZ.out.ls il hlt0
  obtain ⟨lead, hlead⟩ : ∃ lead, lead = G.getD il [] := ⟨_, rfl⟩
  rw [show gg G (il : Int) = lead from hlead.symm] at hcl hsl
  rw [← hlead] at hlls
  obtain ⟨nl, hnl⟩ : ∃ nl, nl = lead.length := ⟨_, rfl⟩
  rw [← hnl] at hcl hlls
  have hilI : (il : Int) < (n : Int) := by omega
  have hil0 : (0 : Int) ≤ (il : Int) := by omega
  have HSL : Hid (SlE w1 al lead) := hide hsl
  have HLEAD := hide hlead
  have HNL := hide hnl
  have y2 := HZ.out.y2
  have n2 := HZ.out.n2
  clear hsl hlead hnl hnode hlt0
  go_wp2
  go_loopw [4, 19] (fun acc idx wr => ∃ k : Nat, k ≤ ny ∧ idx = .int .i64 k ∧ acc = .int .i64 ((cerK G lead sy k : Nat) : Int) ∧ Hid (wr.heap[w.heap.size]? = some (rpO (some ⟨b, off, none⟩) n cg ad nd cd (il : Int) ep ay ny cy ac nc cc)) ∧ Hid (Below w1.heap.size w1 wr)) (fun acc idx _ => ny - (intOf idx).toNat)
  case atStart => exact ⟨0, Nat.zero_le _, rfl, by rw [show cerK G lead sy 0 = lead.length from rfl, ← HNL.out], G1, hide (Below.refl _ _)⟩
  case round =>
    obtain ⟨k, hk, rfl, rfl, GR, BR⟩ := hrel
    clear k0 k1 k2 k3 k4 k5 hcl
    obtain ⟨k0, k1, k2, k3, k4, k5⟩ := blk6 GR.out
    have hbel := B1.out.trans (BR.out.mono B1.out.size)
    obtain ⟨m, hm⟩ : ∃ m, m = cerK G lead sy k := ⟨_, rfl⟩
    rw [← hm]
    have hmle : m ≤ nl := by rw [hm, HNL.out]; exact cerK_le G lead sy k
    by_cases hlt : k < ny
    · obtain ⟨by_, oy, rfl, hcy⟩ := (HS.out.y.below hbel) k (by rw [HZ.out.hy]; exact hlt)
      have hrn := (HG.out.rise k (by rw [HZ.out.hy]; exact hlt)).1
      obtain ⟨x, hx⟩ : ∃ x, x = sy.getD k 0 := ⟨_, rfl⟩
      rw [← hx] at hcy hrn
      obtain ⟨b', off', hba, i, ai, ci, hxi, hi, hci, hsi⟩ := (HS.out.g.below hbel).at' x hrn.1 hrn.2
      cases hba
      subst hxi
      have hll := HZ.out.ls i hi
      obtain ⟨l, hl⟩ : ∃ l, l = G.getD i [] := ⟨_, rfl⟩
      rw [show gg G (i : Int) = l from hl.symm] at hci hsi
      rw [← hl] at hll
      obtain ⟨q, hq⟩ : ∃ q, q = l.length := ⟨_, rfl⟩
      rw [← hq] at hci hll
      have hiI : (i : Int) < (n : Int) := by have := HZ.out.hn; omega
      have hi0 : (0 : Int) ≤ (i : Int) := by omega
      have hltI : (k : Int) < (ny : Int) := by omega
      have C := hide (l7Part_any ai al l lead q ci nl cl wr hq.symm HNL.out.symm hsi (HSL.out.below BR.out) hll hlls)
      have hple := (prt_le l lead).2
      obtain ⟨p, hp⟩ : ∃ p, p = prt l lead := ⟨_, rfl⟩
      rw [← hp] at C hple
      have hpn : p ≤ nl := by rw [HNL.out]; exact hple
      have hnext : cerK G lead sy (k + 1) = min m p := by
        show min (cerK G lead sy k) (prt (gg G (sy.getD k 0)) lead) = _
        rw [← hm, ← hx, show gg G (i : Int) = l from hl.symm, ← hp]
      have HNX := hide hnext
      have HB := hide hbel
      clear hrn hp hx hl hq hsi hnext hple hm hbel
      by_cases hpm : (p : Int) < (m : Int)
      · have hmin : min m p = p := by omega
        go_wp2_with fail
        refine C.out.mono ?_
        rintro e w4 ⟨rfl, hb⟩
        have B4 := hide (BR.out.trans (hb.mono BR.out.size))
        have G4 := hide ((hb.block w.heap.size (Array.getElem?_eq_some_iff.1 GR.out).1).trans GR.out)
        clear hb
        skip
        go_wp2
        go_roundw
        case rel => exact ⟨k + 1, by omega, by go_num, by rw [HNX.out, hmin] <;> (congr 1; omega), G4, B4⟩
        case measure => simp [intOf]; omega
      · have hmin : min m p = m := by omega
        go_wp2_with fail
        refine C.out.mono ?_
        rintro e w4 ⟨rfl, hb⟩
        have B4 := hide (BR.out.trans (hb.mono BR.out.size))
        have G4 := hide ((hb.block w.heap.size (Array.getElem?_eq_some_iff.1 GR.out).1).trans GR.out)
        clear hb
        skip
        go_wp2
        go_roundw
        case rel => exact ⟨k + 1, by omega, by go_num, by rw [HNX.out, hmin] <;> (congr 1; omega), G4, B4⟩
        case measure => simp [intOf]; omega
    · obtain rfl : k = ny := by omega
      have hltI : ¬ (k : Int) < (k : Int) := by omega
      have HE : Hid (rr = (m : Int)) := by
        show rr = (m : Int); rw [HRR.out, hm]; unfold cerL; rw [show gg G (il : Int) = lead from HLEAD.out.symm, HZ.out.hy]
      have HB := hide hbel
      clear hbel hm
      go_wp2
      go_ret
      exact ⟨by rw [HE.out]; rfl, HB.out⟩
end Go.Proofs.Ythmekhhfihjclbd.L9

namespace Go.Proofs.Ythmekhhfihjclbd.L9
open Go.RowKit L1 L7
set_option linter.unusedVariables false

theorem own_emptyT (w : World) (base : Nat) (hb : base ≤ w.heap.size) : (w.alloc (.cells #[] 93)).ownsRow base 93 2 (.slice (some ⟨w.heap.size, 0, none⟩) 0 0) 0 (flatE []) :=
  ⟨rfl, .inr ⟨w.heap.size, 0, #[], rfl, hb, blk_new9 w _, Nat.le_refl _, Nat.zero_le _, rfl, rfl⟩⟩
theorem sdo_out2 {S S5 : Nat → Prop} {w w5 w7 : World} {p z : Nat} {R : Rm} (hK : Kept S w w5) (hG : ∀ q, S5 q → Grow S w w5 q) (hz : w.heap.size ≤ z) (hnz : ¬ S5 z) (hzr : w5.heap[z]? = some zR) (hD : Done S5 w5 p R w7) (hI : Inv R) :
    ∃ gb cg db cd ay cy ac cc, w7.heap[p]? = some (rbO (.slice (some ⟨gb, 0, none⟩) R.G.length cg) (.slice (some ⟨db, 0, none⟩) R.dn.length cd) R.ld R.ep (.slice ay R.sy.length cy) (.slice ac R.ce.length cc)) ∧ w7.heap[z]? = some zR ∧
      ∀ v0 v1 v2 v3 v4 v5, SDo S w R true (.returned (.tuple #[rpV (some ⟨gb, 0, none⟩) R.G.length cg (some ⟨db, 0, none⟩) R.dn.length cd R.ld R.ep ay R.sy.length cy ac R.ce.length cc, .bool true])) ((((((w7.setCell ⟨z, 0, none⟩ v0).setCell ⟨z, 1, none⟩ v1).setCell ⟨z, 2, none⟩ v2).setCell ⟨z, 3, none⟩ v3).setCell ⟨z, 4, none⟩ v4).setCell ⟨z, 5, none⟩ v5) := by
  obtain ⟨V, gb, cg, db, cd, ay, cy, ac, cc, hb, hW, _⟩ := hD.1.open hI
  have hzl := (Array.getElem?_eq_some_iff.1 hzr).1
  have hs5 := hK.size
  have hs7 := hD.2.size
  refine ⟨gb, cg, db, cd, ay, cy, ac, cc, hb, (hD.2.block z hzl hnz).trans hzr, fun v0 v1 v2 v3 v4 v5 => ⟨V, _, cg, _, cd, ay, cy, ac, cc, rfl, ?_, ?_, fun h => by cases h⟩⟩
  · have h1 := hW.at (w' := (((((w7.setCell ⟨z, 0, none⟩ v0).setCell ⟨z, 1, none⟩ v1).setCell ⟨z, 2, none⟩ v2).setCell ⟨z, 3, none⟩ v3).setCell ⟨z, 4, none⟩ v4).setCell ⟨z, 5, none⟩ v5) (fun q hq _ => six_blkS _ _ _ _ _ _ (fun e => by
      subst e
      rcases hq with hq | hq
      · exact hnz hq
      · omega))
    refine h1.mono (fun q hq => ?_)
    have e6 : ((((((w7.setCell ⟨z, 0, none⟩ v0).setCell ⟨z, 1, none⟩ v1).setCell ⟨z, 2, none⟩ v2).setCell ⟨z, 3, none⟩ v3).setCell ⟨z, 4, none⟩ v4).setCell ⟨z, 5, none⟩ v5).heap.size = w7.heap.size := by simp
    rcases hq with hq | hq
    · rcases hG q hq with h | h
      · exact .inl h
      · exact .inr ⟨h.1, by rw [e6]; omega⟩
    · exact .inr ⟨by omega, by rw [e6]; exact hq.2⟩
  · refine six_kept _ _ _ _ _ _ (hK.trans hD.2 (fun q hq hs => ?_)) hz
    rcases hG q hs with h | h
    · exact h
    · omega
set_option maxRecDepth 100000 in
set_option maxHeartbeats 4000000 in
theorem sstep_any (S : Nat → Prop) (V : List Value) (gb cg db cd : Nat) (ay : Option Addr) (cy : Nat) (ac : Option Addr) (cc : Nat) (r : Rm) (w : World) (hI : Inv r) (hW : RW w S V (.slice (some ⟨gb, 0, none⟩) r.G.length cg) (.slice (some ⟨db, 0, none⟩) r.dn.length cd) (.slice ay r.sy.length cy) (.slice ac r.ce.length cc) r) (hS : ∀ q, S q → q < w.heap.size) (kd nd : Int) (t : ByteArray) (ht : t.size ≤ 9223372036854775807) (o : Option Rm) (ho : o = stepM r (kd, nd, t)) :
    Calls Try.prog 64 #[rpV (some ⟨gb, 0, none⟩) r.G.length cg (some ⟨db, 0, none⟩) r.dn.length cd r.ld r.ep ay r.sy.length cy ac r.ce.length cc, .agg #[.int .i64 kd, .int .i64 nd, .string t]] w fun e w' => SDo S w (o.getD r) o.isSome e w' := by
  have hnode := hI.node
  have hdn := hI.good.down
  have hn1 := hI.good.logs.1
  have hzz := rpz_of hI
  obtain ⟨j, hj⟩ : ∃ j : Nat, r.ld = (j : Int) := ⟨r.ld.toNat, by omega⟩
  obtain ⟨n, hn⟩ : ∃ n, n = r.G.length := ⟨_, rfl⟩
  obtain ⟨ny, hny⟩ : ∃ ny, ny = r.sy.length := ⟨_, rfl⟩
  obtain ⟨nc, hnc⟩ : ∃ nc, nc = r.ce.length := ⟨_, rfl⟩
  obtain ⟨E, hE⟩ : ∃ E, E = r.ep := ⟨_, rfl⟩
  have hjn : j < n := by omega
  obtain ⟨hsz3, X0, X1, X2, BX0⟩ := alloc3 w (Obj.cells #[.slice (some ⟨gb, 0, none⟩) n cg, .slice (some ⟨db, 0, none⟩) n cd, .int .i64 (j : Int), .int .i64 E, .slice ay ny cy, .slice ac nc cc] 32) (Obj.cells #[.int .i64 kd, .int .i64 nd, .string t] 50) zR
  obtain ⟨w3, hw3⟩ : ∃ w3, w3 = ((w.alloc (Obj.cells #[.slice (some ⟨gb, 0, none⟩) n cg, .slice (some ⟨db, 0, none⟩) n cd, .int .i64 (j : Int), .int .i64 E, .slice ay ny cy, .slice ac nc cc] 32)).alloc (Obj.cells #[.int .i64 kd, .int .i64 nd, .string t] 50)).alloc zR := ⟨_, rfl⟩
  rw [← hw3] at hsz3 X0 X1 X2 BX0
  have HW3 := hide hw3
  clear hw3
  have s0 : w3.cell? ⟨w.heap.size + 1, 0, none⟩ = some (.int .i64 kd) := by simp [World.cell?, X1]
  have s1 : w3.cell? ⟨w.heap.size + 1, 1, none⟩ = some (.int .i64 nd) := by simp [World.cell?, X1]
  have s2 : w3.cell? ⟨w.heap.size + 1, 2, none⟩ = some (.string t) := by simp [World.cell?, X1]
  obtain ⟨g0, g1, g2, g3, g4, g5⟩ := blk6 X0
  have hWx := hW.below BX0
  have hRB : RB w3 (fun q => S q ∨ q = w.heap.size) w.heap.size r := ⟨V, _, _, _, _, by rw [X0, hdn, ← hn, ← hny, ← hnc, ← hE, hj], hWx.mono (fun q hq => .inl hq), .inr rfl⟩
  have HWX := hide (hWx.mono (S' := fun q => S q ∨ q = w.heap.size) (fun q hq => .inl hq))
  have HBX : Hid (w3.heap[w.heap.size]? = some (rbO (.slice (some ⟨gb, 0, none⟩) r.G.length cg) (.slice (some ⟨db, 0, none⟩) r.dn.length cd) r.ld r.ep (.slice ay r.sy.length cy) (.slice ac r.ce.length cc))) := hide (by rw [X0, hdn, ← hn, ← hny, ← hnc, ← hE, hj])
  have hS3 : ∀ q, (S q ∨ q = w.heap.size) → q < w3.heap.size := fun q hq => by
    rcases hq with hq | hq
    · have := hS q hq; omega
    · omega
  have OUT := hide (fun R w5 (hD : Done (fun q => S q ∨ q = w.heap.size) w3 w.heap.size R w5) (hIR : Inv R) => sdo_out hS BX0 ⟨Nat.le_refl _, by omega⟩ ⟨by omega, by omega⟩ X2 hD hIR)
  have cj := hWx.downAt j (by omega)
  obtain ⟨y, hy⟩ : ∃ y, y = r.dn.getD j false := ⟨_, rfl⟩
  have HY : Hid (r.down r.ld = y) := hide (by rw [hj]; exact hy.symm)
  rw [← hy] at cj
  have HLD := hide hj
  have HEP := hide hE
  have HI := hide hI
  have HRB := hide hRB
  have he0 : 1 ≤ E := by rw [hE]; exact hI.good.e0
  have he1 : E ≤ 1000 := by rw [hE]; exact hI.good.e1
  have hy6 := hzz.y2
  rw [← hny] at hy6
  have fz : ∀ c, w3.frozen? ⟨w.heap.size, c, none⟩ = false := fun c => frz X0 c
  have fd : ∀ c, w3.frozen? ⟨db, c, none⟩ = false := fun c => own_frz hWx.d c
  have fg : ∀ c, w3.frozen? ⟨gb, c, none⟩ = false := fun c => own_frz hWx.g c
  obtain ⟨z0, z1, z2, z3, z4, z5⟩ := blk6 X2
  have zf : ∀ c, w3.frozen? ⟨w.heap.size + 2, c, none⟩ = false := fun c => frz X2 c
  have hjI : (j : Int) < (n : Int) := by omega
  have hj0 : (0 : Int) ≤ (j : Int) := by omega
  have HB0 := hide BX0
  have hgb : gb < w3.heap.size := by obtain ⟨_, _, _, hc, _⟩ := hWx.logAt j (by omega); exact blk_lt9 hc
  have hp0 : w.heap.size < w3.heap.size := by omega
  have hp2 : w.heap.size + 2 < w3.heap.size := by omega
  rw [hdn, ← hn, ← hny, ← hnc, ← hE, hj]
  have SAME := hide (fun w5 (h5 : Below w.heap.size w w5) v0 v1 v2 v3 v4 v5 => sdo_same (z := w.heap.size + 2) hW hS h5 (by omega) false v0 v1 v2 v3 v4 v5)
  simp only [hdn, ← hn, ← hny, ← hnc, ← hE, hj] at SAME

  obtain ⟨x, hx⟩ : ∃ x, x = doM r kd nd t := ⟨_, rfl⟩
  have hst : o = x.map setl := by rw [ho, hx]; rfl
  have HX := hide hx
  have HST := hide hst
  have CD := hide (sdo_any S V gb cg db cd ay cy ac cc r w3 hI (hW.below BX0) (fun q hq => by have := hS q hq; omega) kd nd t ht x hx)
  simp only [hdn, ← hn, ← hny, ← hnc, ← hE, hj] at CD
  have HX0 := hide X0
  have HX2 := hide X2
  have HSZ3 := hide hsz3
  clear hx hst ho hy hj hE hny hnc hn hI hW hWx hRB hzz hdn hn1 hnode X0 X1 X2 hy6 BX0 hsz3
  go_enter Try.func64, Try.ntmps64
  go_upto_region 1 with fail
  rw [← HW3.out]
  go_wp2_with fail
  refine CD.out.mono ?_
  rintro e w4 ⟨V', ag', cg', ad', cd', ay', cy', ac', cc', rfl, hW4, hK4, hF4⟩
  cases x with
  | none =>
    have hb4 := hF4 rfl
    have e0 : o = none := HST.out
    subst e0

    have cells : ∀ ob c v, w3.cell? ⟨w.heap.size, c, none⟩ = some v → (w4.alloc ob).cell? ⟨w.heap.size, c, none⟩ = some v := fun ob c v h => Go.Lib.cell?_alloc_some ob ((hb4.cell (blk_lt9 h)).trans h)
    have cellz : ∀ ob c v, w3.cell? ⟨w.heap.size + 2, c, none⟩ = some v → (w4.alloc ob).cell? ⟨w.heap.size + 2, c, none⟩ = some v := fun ob c v h => Go.Lib.cell?_alloc_some ob ((hb4.cell (blk_lt9 h)).trans h)
    have G0 := fun ob => cells ob _ _ g0
    have G1 := fun ob => cells ob _ _ g1
    have G2 := fun ob => cells ob _ _ g2
    have G3 := fun ob => cells ob _ _ g3
    have G4 := fun ob => cells ob _ _ g4
    have G5 := fun ob => cells ob _ _ g5
    have Z0 := fun ob => cellz ob _ _ z0
    have Z1 := fun ob => cellz ob _ _ z1
    have Z2 := fun ob => cellz ob _ _ z2
    have Z3 := fun ob => cellz ob _ _ z3
    have Z4 := fun ob => cellz ob _ _ z4
    have Z5 := fun ob => cellz ob _ _ z5
    have ZF : ∀ ob c, (w4.alloc ob).frozen? ⟨w.heap.size + 2, c, none⟩ = false := fun ob c => frz ((((Below.refl w4.heap.size w4).alloc (Nat.le_refl _) ob).block _ (by have := hb4.size; omega)).trans ((hb4.block _ hp2).trans HX2.out)) c
    have HBW := hide (fun ob => (HB0.out.trans (hb4.mono HB0.out.size)).alloc (Nat.le_trans HB0.out.size hb4.size) ob)
    clear hW4 hK4 hF4 hb4 cells cellz CD g0 g1 g2 g3 g4 g5 z0 z1 z2 z3 z4 z5
    go_wp2
    refine bodyPost_ret (v := .tuple #[rpV (some ⟨gb, 0, none⟩) n cg (some ⟨db, 0, none⟩) n cd (j : Int) E ay ny cy ac nc cc, .bool false]) (by simp [results, Try.f64, go_sem, Z0, Z1, Z2, Z3, Z4, Z5]) rfl ?_
    exact SAME.out _ (HBW.out _) _ _ _ _ _ _
  | some y =>
    have e0 : o = some (setl y) := HST.out
    subst e0
    have hIy := HI.out.step HX.out.symm
    have hW5 : RW w4 (Grow S w3 w4) V' (.slice ag' y.G.length cg') (.slice ad' y.dn.length cd') (.slice ay' y.sy.length cy') (.slice ac' y.ce.length cc') y := hW4
    have e1 : ∃ gb', ag' = some ⟨gb', 0, none⟩ := by
      have h5 := hIy.good.logs.1
      rcases hW5.g.2 with ⟨hv, h0⟩ | ⟨g, cap, cur, hv, _⟩
      · omega
      · obtain ⟨e, _, _⟩ := Value.slice.inj hv; exact ⟨g, e⟩
    obtain ⟨gb', rfl⟩ := e1
    obtain ⟨P, hP⟩ : ∃ P, P = w4.heap.size := ⟨_, rfl⟩
    have hs4 := hK4.size
    have hzl : w.heap.size + 2 < w3.heap.size := hp2
    have hz4 : w4.heap[w.heap.size + 2]? = some zR := (hK4.block _ hzl (fun h => by have := hS _ h; omega)).trans HX2.out
    obtain ⟨XO, hXO⟩ : ∃ XO, XO = rbO (.slice (some ⟨gb', 0, none⟩) y.G.length cg') (.slice ad' y.dn.length cd') y.ld y.ep (.slice ay' y.sy.length cy') (.slice ac' y.ce.length cc') := ⟨_, rfl⟩
    have hA := (Below.refl w4.heap.size w4).alloc (Nat.le_refl _) XO
    have hpx : (w4.alloc XO).heap[P]? = some XO := by rw [hP]; exact blk_new9 w4 XO
    have hsA : (w4.alloc XO).heap.size = w4.heap.size + 1 := by simp
    obtain ⟨w5, hw5⟩ : ∃ w5, w5 = w4.alloc XO := ⟨_, rfl⟩
    rw [← hw5] at hA hpx hsA
    have hzA : w5.heap[w.heap.size + 2]? = some zR := (hA.block _ (by omega)).trans hz4
    obtain ⟨S5, hS5⟩ : ∃ S5 : Nat → Prop, S5 = fun q => Grow S w3 w4 q ∨ q = P := ⟨_, rfl⟩
    have hRB : RB w5 S5 P y := ⟨V', _, _, _, _, by rw [hpx, hXO], by rw [hS5]; exact (hW5.below hA).mono (fun q hq => .inl hq), by rw [hS5]; exact .inr rfl⟩
    have hS5l : ∀ q, S5 q → q < w5.heap.size := fun q hq => by
      rw [hS5] at hq
      rcases hq with (hq | hq) | hq
      · have := hS q hq; omega
      · omega
      · omega
    have hn5 : ¬ S5 (w.heap.size + 2) := fun hq => by
      rw [hS5] at hq
      rcases hq with (hq | hq) | hq
      · have := hS _ hq; omega
      · omega
      · omega
    have hK5 : Kept S w w5 := (((kept_below HB0.out).trans hK4 (fun q _ h => h))).trans (kept_below (S := S) hA) (fun q _ h => h)
    have hG5 : ∀ q, S5 q → Grow S w w5 q := fun q hq => by
      have := HB0.out.size
      rw [hS5] at hq
      rcases hq with (hq | hq) | hq
      · exact .inl hq
      · exact .inr ⟨by omega, by omega⟩
      · exact .inr ⟨by omega, by omega⟩
    have OUT2 := hide (fun R w7 (hD : Done S5 w5 P R w7) (hIR : Inv R) => sdo_out2 hK5 hG5 (z := w.heap.size + 2) (by omega) hn5 hzA hD hIR)
    obtain ⟨C, hC⟩ : ∃ C, C = cerL y.G y.ld y.sy := ⟨_, rfl⟩
    have CC := hide (fun wx (hb : Below w5.heap.size w5 wx) => l9Certain_any (some ⟨gb', 0, none⟩) y.G.length cg' ad' y.dn.length cd' y.ld y.ep ay' y.sy.length cy' ac' y.ce.length cc' y.G y.sy y.ce wx (rpz_of hIy) (((hW5.below hA).rps.1).below hb) hIy.good)
    simp only [← hC] at CC
    have hW6 : RW w5 S5 V' (.slice (some ⟨gb', 0, none⟩) y.G.length cg') (.slice ad' y.dn.length cd') (.slice ay' y.sy.length cy') (.slice ac' y.ce.length cc') y := by rw [hS5]; exact (hW5.below hA).mono (fun q hq => .inl hq)
    have HW6 := hide hW6
    have hSP : S5 P := by rw [hS5]; exact .inr rfl
    have hpx2 : w5.heap[P]? = some (rbO (.slice (some ⟨gb', 0, none⟩) y.G.length cg') (.slice ad' y.dn.length cd') y.ld y.ep (.slice ay' y.sy.length cy') (.slice ac' y.ce.length cc')) := by rw [hpx, hXO]
    have HPX := hide hpx2
    have hnode' := hIy.node
    obtain ⟨jj, hjj⟩ : ∃ jj : Nat, y.ld = (jj : Int) := ⟨y.ld.toNat, by omega⟩
    obtain ⟨aJ, kJ, eJ, lJ, sJ⟩ := hW6.logAt jj (by omega)
    have oJ := hW6.l jj (by omega)
    rw [eJ] at oJ
    have capJ := own_capE oJ
    have gJ := (hIy.good.logs.2 jj (by omega)).1
    obtain ⟨M, hM⟩ : ∃ M, M = y.G.getD jj [] := ⟨_, rfl⟩
    rw [← hM] at lJ sJ capJ gJ
    obtain ⟨q, hq⟩ : ∃ q, q = M.length := ⟨_, rfl⟩
    rw [← hq] at lJ capJ gJ
    have hle : C ≤ q := by
      have := cerK_le y.G y.lead y.sy y.sy.length
      have h2 : cerL y.G y.ld y.sy ≤ (y.G.getD y.ld.toNat []).length := this
      rw [← hC, hjj, Int.toNat_natCast, ← hM, ← hq] at h2
      exact h2
    have hjn : jj < y.G.length := by omega
    have hw5' := hw5
    rw [hXO] at hw5'
    have hIS := hIy.settle
    obtain ⟨k0, k1, k2, k3, k4, k5⟩ := blk6 hpx2
    obtain ⟨n1, hn1⟩ : ∃ x, x = y.G.length := ⟨_, rfl⟩
    obtain ⟨n2, hn2⟩ : ∃ x, x = y.dn.length := ⟨_, rfl⟩
    obtain ⟨n3, hn3⟩ : ∃ x, x = y.sy.length := ⟨_, rfl⟩
    obtain ⟨n4, hn4⟩ : ∃ x, x = y.ce.length := ⟨_, rfl⟩
    obtain ⟨x2, hx2⟩ : ∃ x, x = y.ep := ⟨_, rfl⟩
    have HN4 := hide hn4
    have HJJ := hide hjj
    have HM := hide hM
    have HQ := hide hq
    have HSJ := hide sJ
    have HIS := hide hIS
    rw [← hn1] at hjn
    have hjI : (jj : Int) < (n1 : Int) := by omega
    have hj0' : (0 : Int) ≤ (jj : Int) := by omega
    dsimp only [Option.getD_some, Option.isSome_some]
    simp only [← hn1, ← hn2, ← hn3, ← hn4, ← hx2, hjj] at CC k0 k1 k2 k3 k4 k5 hw5' ⊢
    have HW5' := hide hw5'
    have hbP : P ≠ gb' := fun e => by
      have := hW6.g
      rw [← e] at this
      exact box_ne hpx2 this
    have HRB := hide hRB
    have HIY := hide hIy
    have HCC := hide hC
    have HW5 := hide hw5
    have HXO := hide hXO
    have HPP := hide hP
    clear hRB hW4 hW5 hW6 hK4 hF4 CD hIy hIS hC hs4 hzl hz4 hw5 hw5' hXO hP hA hpx hpx2 hsA hzA hK5 hG5 hn5 hS5 hnode' eJ oJ sJ hM hq hn1 hn2 hn3 hn4 hx2 hjj
    go_upto_region 4 with fail
    rw [← HPP.out, ← HW5'.out]
    go_wp2_with fail
    refine (CC.out w5 (Below.refl _ _)).mono ?_
    rintro e w6 ⟨rfl, hb6⟩
    replace k0 := (hb6.cell (blk_lt9 k0)).trans k0
    replace k1 := (hb6.cell (blk_lt9 k1)).trans k1
    replace k2 := (hb6.cell (blk_lt9 k2)).trans k2
    replace k3 := (hb6.cell (blk_lt9 k3)).trans k3
    replace k4 := (hb6.cell (blk_lt9 k4)).trans k4
    replace k5 := (hb6.cell (blk_lt9 k5)).trans k5
    replace lJ := (hb6.cell (blk_lt9 lJ)).trans lJ
    have HB6 := hide hb6
    have HSJ6 := hide (HSJ.out.below hb6)
    have HPX6 := hide ((hb6.block P (Array.getElem?_eq_some_iff.1 HPX.out).1).trans HPX.out)
    clear hb6 CC g0 g1 g2 g3 g4 g5 s0 s1 s2 z0 z1 z2 z3 z4 z5 cj fz fg zf
    by_cases hlt : n4 < C
    · have hltI : (n4 : Int) < (C : Int) := by omega
      obtain ⟨lb, lo, rfl, _⟩ := HSJ6.out 0 (by rw [← HQ.out]; omega)
      obtain ⟨ce', hce⟩ : ∃ ce', ce' = M.take C := ⟨_, rfl⟩
      have hcl : ce'.length = C := by rw [hce, List.length_take, ← HQ.out]; omega
      have HCE := hide hce
      have HCN := hide hcl
      obtain ⟨d1, S1⟩ := slice_to (some ⟨lb, lo, none⟩) q kJ C hle capJ (fun e => by cases e)
      have A0 : ∀ ob, (w6.alloc ob).cell? ⟨P, 0, none⟩ = _ := fun ob => Go.Lib.cell?_alloc_some ob k0
      have A2 : ∀ ob, (w6.alloc ob).cell? ⟨P, 2, none⟩ = _ := fun ob => Go.Lib.cell?_alloc_some ob k2
      have AJ : ∀ ob, (w6.alloc ob).cell? ⟨gb', jj, none⟩ = _ := fun ob => Go.Lib.cell?_alloc_some ob lJ
      clear hce hcl
      go_wp2_with (first
        | (at_builtin; refine wpList_append_ent rfl _ _ rfl w6.heap.size _ _ 0 0 C d1 [] ce' rfl HCN.out (by omega) (by omega) rfl (own_emptyT _ _ (Nat.le_refl _)) rfl (by rw [HCE.out]; exact slE_take (HSJ6.out.below ((Below.refl _ _).alloc (Nat.le_refl _) _)) C) (by simp) ?_)
        | go_in)
      intro a5 c5 w7 ho7 hg7
      have hb7 : Below w6.heap.size w6 w7 := ((Below.refl _ _).alloc (Nat.le_refl _) _).grown hg7 (by simp) (fun g hg => by cases hg; exact Nat.le_refl _)
      have HO7 : Hid (w7.ownsRow w6.heap.size 93 2 (.slice a5 C c5) C (flatE ce')) := by
        show World.ownsRow _ _ _ _ _ _ _
        simpa using ho7
      have k57 := (hb7.cell (blk_lt9 k5)).trans k5
      have fP : ∀ c, w7.frozen? ⟨P, c, none⟩ = false := fun c => frz ((hb7.block P (Array.getElem?_eq_some_iff.1 HPX6.out).1).trans HPX6.out) c
      have HB7 := hide (HB6.out.trans (hb7.mono HB6.out.size))
      have hz67 := HB6.out.size
      clear ho7 hg7 hb7 A0 A2 AJ k0 k1 k2 k3 k4 k5
      go_upto_region 7 with fail
      have e1 : setl y = { y with ce := ce' } := by
        unfold setl
        rw [if_pos (by rw [← HCC.out, ← HN4.out]; exact hlt), HCE.out, ← HCC.out, HM.out]
        show ({ y with ce := (y.G.getD y.ld.toNat []).take C } : Rm) = _
        rw [HJJ.out, Int.toNat_natCast]
      have hD := done_cert HW6.out HPX.out hSP HB7.out (.slice a5 C c5) ce' (by rw [HCN.out]; exact own_baseZ HO7.out hz67)
      rw [← e1] at hD
      obtain ⟨w8, hw8⟩ : ∃ w8, w8 = w7.setCell ⟨P, 5, none⟩ (.slice a5 C c5) := ⟨_, rfl⟩
      rw [← hw8] at hD ⊢
      obtain ⟨R, hR⟩ : ∃ R, R = setl y := ⟨_, rfl⟩
      have hIR := HIS.out
      rw [← hR] at hD hIR
      have HRR := hide hR
      clear hw8 hR e1
      obtain ⟨gb8, cg8, db8, cd8, ay8, cy8, ac8, cc8, hb8, hz8, fin8⟩ := OUT2.out R w8 hD hIR
      obtain ⟨k0, k1, k2, k3, k4, k5⟩ := blk6 hb8
      obtain ⟨y0, y1, y2, y3, y4, y5⟩ := blk6 hz8
      have yf : ∀ c, w8.frozen? ⟨w.heap.size + 2, c, none⟩ = false := fun c => frz hz8 c
      obtain ⟨m1, hm1⟩ : ∃ x, x = R.G.length := ⟨_, rfl⟩
      obtain ⟨m2, hm2⟩ : ∃ x, x = R.dn.length := ⟨_, rfl⟩
      obtain ⟨m3, hm3⟩ : ∃ x, x = R.sy.length := ⟨_, rfl⟩
      obtain ⟨m4, hm4⟩ : ∃ x, x = R.ce.length := ⟨_, rfl⟩
      obtain ⟨x1, hx1⟩ : ∃ x, x = R.ld := ⟨_, rfl⟩
      obtain ⟨x3, hx3⟩ : ∃ x, x = R.ep := ⟨_, rfl⟩
      have FIN := hide fin8
      simp only [← hm1, ← hm2, ← hm3, ← hm4, ← hx1, ← hx3] at FIN k0 k1 k2 k3 k4 k5
      clear hm1 hm2 hm3 hm4 hx1 hx3 hb8 hz8 fin8 hD hIR
      go_wp2
      refine bodyPost_ret (v := .tuple #[rpV (some ⟨gb8, 0, none⟩) m1 cg8 (some ⟨db8, 0, none⟩) m2 cd8 x1 x3 ay8 m3 cy8 ac8 m4 cc8, .bool true]) (by simp [results, Try.f64, go_sem, y0, y1, y2, y3, y4, y5]) rfl ?_
      show SDo S w (setl y) true _ _
      rw [← HRR.out]
      exact FIN.out _ _ _ _ _ _
    · have hltI : ¬ (n4 : Int) < (C : Int) := by omega
      go_upto_region 7 with fail
      have e1 : setl y = y := by
        unfold setl
        rw [if_neg (by rw [← HCC.out, ← HN4.out]; exact hlt)]
      have hD := HRB.out.same HB6.out
      rw [← e1] at hD
      obtain ⟨w8, hw8⟩ : ∃ w8, w8 = w6 := ⟨_, rfl⟩
      rw [← hw8] at hD ⊢
      obtain ⟨R, hR⟩ : ∃ R, R = setl y := ⟨_, rfl⟩
      have hIR := HIS.out
      rw [← hR] at hD hIR
      have HRR := hide hR
      clear hw8 hR e1 k0 k1 k2 k3 k4 k5
      obtain ⟨gb8, cg8, db8, cd8, ay8, cy8, ac8, cc8, hb8, hz8, fin8⟩ := OUT2.out R w8 hD hIR
      obtain ⟨k0, k1, k2, k3, k4, k5⟩ := blk6 hb8
      obtain ⟨y0, y1, y2, y3, y4, y5⟩ := blk6 hz8
      have yf : ∀ c, w8.frozen? ⟨w.heap.size + 2, c, none⟩ = false := fun c => frz hz8 c
      obtain ⟨m1, hm1⟩ : ∃ x, x = R.G.length := ⟨_, rfl⟩
      obtain ⟨m2, hm2⟩ : ∃ x, x = R.dn.length := ⟨_, rfl⟩
      obtain ⟨m3, hm3⟩ : ∃ x, x = R.sy.length := ⟨_, rfl⟩
      obtain ⟨m4, hm4⟩ : ∃ x, x = R.ce.length := ⟨_, rfl⟩
      obtain ⟨x1, hx1⟩ : ∃ x, x = R.ld := ⟨_, rfl⟩
      obtain ⟨x3, hx3⟩ : ∃ x, x = R.ep := ⟨_, rfl⟩
      have FIN := hide fin8
      simp only [← hm1, ← hm2, ← hm3, ← hm4, ← hx1, ← hx3] at FIN k0 k1 k2 k3 k4 k5
      clear hm1 hm2 hm3 hm4 hx1 hx3 hb8 hz8 fin8 hD hIR
      go_wp2
      refine bodyPost_ret (v := .tuple #[rpV (some ⟨gb8, 0, none⟩) m1 cg8 (some ⟨db8, 0, none⟩) m2 cd8 x1 x3 ay8 m3 cy8 ac8 m4 cc8, .bool true]) (by simp [results, Try.f64, go_sem, y0, y1, y2, y3, y4, y5]) rfl ?_
      show SDo S w (setl y) true _ _
      rw [← HRR.out]
      exact FIN.out _ _ _ _ _ _
end Go.Proofs.Ythmekhhfihjclbd.L9

namespace Go.Proofs.Ythmekhhfihjclbd.L9
open Go.RowKit L1 L7
set_option linter.unusedVariables false

theorem rw_some {w : World} {S : Nat → Prop} {V : List Value} {ag ad : Option Addr} {cg cd : Nat} {vy vc : Value} {r : Rm} (h : RW w S V (.slice ag r.G.length cg) (.slice ad r.dn.length cd) vy vc r) (hI : Inv r) : ∃ gb db, ag = some ⟨gb, 0, none⟩ ∧ ad = some ⟨db, 0, none⟩ := by
  have hn := hI.good.logs.1
  have hd := hI.good.down
  have e1 : ∃ gb, ag = some ⟨gb, 0, none⟩ := by
    rcases h.g.2 with ⟨hv, h0⟩ | ⟨g, cap, cur, hv, _⟩
    · omega
    · obtain ⟨e, _, _⟩ := Value.slice.inj hv; exact ⟨g, e⟩
  have e2 : ∃ db, ad = some ⟨db, 0, none⟩ := by
    rcases h.d.2 with ⟨hv, h0⟩ | ⟨g, cap, cur, hv, _⟩
    · omega
    · obtain ⟨e, _, _⟩ := Value.slice.inj hv; exact ⟨g, e⟩
  obtain ⟨gb, e1⟩ := e1
  obtain ⟨db, e2⟩ := e2
  exact ⟨gb, db, e1, e2⟩
theorem sdo_hid {S : Nat → Prop} {w w' : World} {R : Rm} {ok : Bool} {e : Ending} (h : SDo S w R ok e w') : ∃ V ag cg ad cd ay cy ac cc, e = .returned (.tuple #[rpV ag R.G.length cg ad R.dn.length cd R.ld R.ep ay R.sy.length cy ac R.ce.length cc, .bool ok]) ∧ Hid (RW w' (Grow S w w') V (.slice ag R.G.length cg) (.slice ad R.dn.length cd) (.slice ay R.sy.length cy) (.slice ac R.ce.length cc) R) ∧ Hid (Kept S w w') := by
  obtain ⟨V, ag, cg, ad, cd, ay, cy, ac, cc, h1, h2, h3, _⟩ := h
  exact ⟨V, ag, cg, ad, cd, ay, cy, ac, cc, h1, hide h2, hide h3⟩
theorem bel_kept {S : Nat → Prop} {w1 w2 w3 : World} (h : Below w1.heap.size w1 w2) (k : Kept S w2 w3) (hS : ∀ q, S q → w1.heap.size ≤ q) : Below w1.heap.size w1 w3 :=
  ⟨k.os.trans h.os, k.tape.trans h.tape, k.output.trans h.output, Nat.le_trans h.size k.size, fun q hq => (k.block q (by have := h.size; omega) (fun s => by have := hS q s; omega)).trans (h.block q hq)⟩
/-- What a round of the model leaves: the answer lies in the box X. -/
def Lf (w1 : World) (R : Rm) (X : Nat) (wx : World) (m1 m2 : Nat) (y1 y2 : Int) (m3 m4 : Nat) : Prop :=
  ∃ Sx V ag cg ad cd ay cy ac cc, wx.heap[X]? = some (rpO ag m1 cg ad m2 cd y1 y2 ay m3 cy ac m4 cc) ∧ RW wx Sx V (.slice ag m1 cg) (.slice ad m2 cd) (.slice ay m3 cy) (.slice ac m4 cc) R ∧ (∀ q, Sx q → w1.heap.size ≤ q ∧ q < wx.heap.size) ∧ Below w1.heap.size w1 wx
theorem Lf.bel {w1 : World} {R : Rm} {X : Nat} {wx : World} {m1 m2 : Nat} {y1 y2 : Int} {m3 m4 : Nat} (h : Lf w1 R X wx m1 m2 y1 y2 m3 m4) : Below w1.heap.size w1 wx := by
  obtain ⟨_, _, _, _, _, _, _, _, _, _, _, _, _, hb⟩ := h
  exact hb
theorem lf_new {w1 w3 : World} {S3 : Nat → Prop} {V : List Value} {ag ad ay ac : Option Addr} {cg cd cy cc m1 m2 m3 m4 : Nat} {y1 y2 : Int} {R : Rm} (hW : RW w3 S3 V (.slice ag m1 cg) (.slice ad m2 cd) (.slice ay m3 cy) (.slice ac m4 cc) R) (hB : Below w1.heap.size w1 w3) (hlo : ∀ q, S3 q → w1.heap.size ≤ q) (hhi : ∀ q, S3 q → q < w3.heap.size) :
    Lf w1 R w3.heap.size (w3.alloc (rpO ag m1 cg ad m2 cd y1 y2 ay m3 cy ac m4 cc)) m1 m2 y1 y2 m3 m4 :=
  ⟨S3, V, ag, cg, ad, cd, ay, cy, ac, cc, blk_new9 _ _, hW.below ((Below.refl _ _).alloc (Nat.le_refl _) _), fun q hq => ⟨hlo q hq, by have := hhi q hq; simp; omega⟩, hB.alloc hB.size _⟩
theorem six_heap {w : World} {X : Nat} {cur : Array Value} (v0 v1 v2 v3 v4 v5 : Value) (hs : cur.size = 6) (h : w.heap[X]? = some (.cells cur 32 (0, 0))) : ((((((w.setCell ⟨X, 0, none⟩ v0).setCell ⟨X, 1, none⟩ v1).setCell ⟨X, 2, none⟩ v2).setCell ⟨X, 3, none⟩ v3).setCell ⟨X, 4, none⟩ v4).setCell ⟨X, 5, none⟩ v5).heap[X]? = some (.cells #[v0, v1, v2, v3, v4, v5] 32 (0, 0)) := by
  rw [heap_box (heap_box (heap_box (heap_box (heap_box (heap_box h 0 v0) 1 v1) 2 v2) 3 v3) 4 v4) 5 v5]
  obtain ⟨l⟩ := cur
  match l, hs with
  | [c0, c1, c2, c3, c4, c5], _ => rfl
theorem lf_set {w1 w3 : World} {S3 : Nat → Prop} {V : List Value} {ag ad ay ac : Option Addr} {cg cd cy cc m1 m2 m3 m4 : Nat} {y1 y2 : Int} {R : Rm} {X : Nat} (hW : RW w3 S3 V (.slice ag m1 cg) (.slice ad m2 cd) (.slice ay m3 cy) (.slice ac m4 cc) R) (hB : Below w1.heap.size w1 w3) (hlo : ∀ q, S3 q → w1.heap.size ≤ q) (hhi : ∀ q, S3 q → q < w3.heap.size) (hX : w3.heap[X]? = some zR) (hX1 : w1.heap.size ≤ X) (hXS : ¬ S3 X) :
    Lf w1 R X ((((((w3.setCell ⟨X, 0, none⟩ (.slice ag m1 cg)).setCell ⟨X, 1, none⟩ (.slice ad m2 cd)).setCell ⟨X, 2, none⟩ (.int .i64 y1)).setCell ⟨X, 3, none⟩ (.int .i64 y2)).setCell ⟨X, 4, none⟩ (.slice ay m3 cy)).setCell ⟨X, 5, none⟩ (.slice ac m4 cc)) m1 m2 y1 y2 m3 m4 :=
  ⟨S3, V, ag, cg, ad, cd, ay, cy, ac, cc, six_heap _ _ _ _ _ _ rfl hX, hW.at fun q hq _ => six_blk _ _ _ _ _ _ (fun e => hXS (e ▸ hq)), fun q hq => ⟨hlo q hq, by have := hhi q hq; simpa using this⟩, six_bel _ _ _ _ _ _ hB hX1⟩
theorem six_keptS {S : Nat → Prop} {w w' : World} {z : Nat} (v0 v1 v2 v3 v4 v5 : Value) (h : Kept S w w') (hz : S z) : Kept S w ((((((w'.setCell ⟨z, 0, none⟩ v0).setCell ⟨z, 1, none⟩ v1).setCell ⟨z, 2, none⟩ v2).setCell ⟨z, 3, none⟩ v3).setCell ⟨z, 4, none⟩ v4).setCell ⟨z, 5, none⟩ v5) :=
  (((((h.set ⟨z, 0, none⟩ _ (.inl hz)).set ⟨z, 1, none⟩ _ (.inl hz)).set ⟨z, 2, none⟩ _ (.inl hz)).set ⟨z, 3, none⟩ _ (.inl hz)).set ⟨z, 4, none⟩ _ (.inl hz)).set ⟨z, 5, none⟩ _ (.inl hz)
theorem lf_done {w1 : World} {R : Rm} {X b : Nat} {wx : World} {m1 m2 : Nat} {y1 y2 : Int} {m3 m4 : Nat} {S : Nat → Prop} {vg vd vy vc : Value} {l e : Int} (h : Lf w1 R X wx m1 m2 y1 y2 m3 m4) (hb : w1.heap[b]? = some (rbO vg vd l e vy vc)) (hS : S b) (hb1 : b < w1.heap.size) (hy1 : y1 = R.ld) (hy2 : y2 = R.ep) :
    ∃ ag3 cg3 ad3 cd3 ay3 cy3 ac3 cc3, wx.heap[X]? = some (rpO ag3 m1 cg3 ad3 m2 cd3 y1 y2 ay3 m3 cy3 ac3 m4 cc3) ∧ Done S w1 b R ((((((wx.setCell ⟨b, 0, none⟩ (.slice ag3 m1 cg3)).setCell ⟨b, 1, none⟩ (.slice ad3 m2 cd3)).setCell ⟨b, 2, none⟩ (.int .i64 y1)).setCell ⟨b, 3, none⟩ (.int .i64 y2)).setCell ⟨b, 4, none⟩ (.slice ay3 m3 cy3)).setCell ⟨b, 5, none⟩ (.slice ac3 m4 cc3)) := by
  obtain ⟨Sx, V, ag, cg, ad, cd, ay, cy, ac, cc, hX, hW, hlo, hB⟩ := h
  have hbx := (hB.block b hb1).trans hb
  refine ⟨ag, cg, ad, cd, ay, cy, ac, cc, hX, ⟨V, .slice ag m1 cg, .slice ad m2 cd, .slice ay m3 cy, .slice ac m4 cc, ?_, ?_, .inl hS⟩, six_keptS _ _ _ _ _ _ (kept_below hB) hS⟩
  · rw [six_heap _ _ _ _ _ _ rfl hbx, hy1, hy2]
  · refine (hW.at fun q hq _ => six_blk _ _ _ _ _ _ (fun e => by have := (hlo q hq).1; omega)).mono (fun q hq => .inr ?_)
    have := hlo q hq
    exact ⟨this.1, by simpa using this.2⟩
theorem PlI.out2 {w : World} {b : Nat} {r0 : Rm} {ss : List Stp} {n : Nat} {da : Option Addr} {dc : Nat} {S : Nat → Prop} {wr w5 : World} {V : List Value} {ag ad ay ac : Option Addr} {cg cd cy cc : Nat} {R : Rm} {D : List Bool} (h : PlI w b r0 ss n da dc S wr) (hR : R = (plK r0 ss n).1) (hD : D = (plK r0 ss n).2) (hW : RW w5 (fun q => wr.heap.size ≤ q ∧ q < w5.heap.size) V (.slice ag R.G.length cg) (.slice ad R.dn.length cd) (.slice ay R.sy.length cy) (.slice ac R.ce.length cc) R) (hb : Below wr.heap.size wr w5) (v0 v1 v2 v3 v4 v5 : Value) (e : Ending) (he : e = .returned (.tuple #[rpV ag R.G.length cg ad R.dn.length cd R.ld R.ep ay R.sy.length cy ac R.ce.length cc, .slice da n dc, .bool true])) :
    PlRet w R D true e ((((((w5.setCell ⟨w.heap.size, 0, none⟩ v0).setCell ⟨w.heap.size, 1, none⟩ v1).setCell ⟨w.heap.size, 2, none⟩ v2).setCell ⟨w.heap.size, 3, none⟩ v3).setCell ⟨w.heap.size, 4, none⟩ v4).setCell ⟨w.heap.size, 5, none⟩ v5) := by
  have hDl : D.length = n := by rw [hD, plK_len]
  have hsz := h.bel.size
  have hrl := (Array.getElem?_eq_some_iff.1 h.res).1
  refine ⟨V, ag, cg, ad, cd, ay, cy, ac, cc, da, dc, _, by rw [he, hDl], hW.at fun q hq _ => six_blk _ _ _ _ _ _ (by have := hq.1; omega), ?_, fun q hq hS => by have := own_lt9 h.own q (by rw [hDl] at hq; exact hq); have := hS.1; omega, fun q hq => by have := hq.1; omega, six_bel _ _ _ _ _ _ (h.bel.trans (hb.mono hsz)) (Nat.le_refl _)⟩
  rw [hDl, hD]
  refine own_at (own_at h.own fun q hq => hb.block q (own_lt9 h.own q hq)) fun q hq => six_blk _ _ _ _ _ _ (fun e => ?_)
  rcases h.own.2 with ⟨hv, _⟩ | ⟨g, cap, cur, hv, _, hh, _⟩
  · rw [hv] at hq; cases hq
  · rw [hv] at hq
    have e' : g = q := Option.some.inj hq
    rw [e', e, h.res] at hh
    cases hh
set_option maxRecDepth 100000 in
set_option maxHeartbeats 4000000 in
theorem specPlay_any (k : Int) (a : Option Addr) (ss : List Stp) (n cap : Nat) (w : World) (hn : ss.length = n) (hs : SlT w a ss) (hn2 : n ≤ 1048576) (htx : TxT ss) (R : Rm) (D : List Bool) (ok : Bool) (hv : PlIs k ss R D ok) :
    Calls Try.prog 27 #[.int .i64 k, .slice a n cap] w fun e w' => PlRet w R D ok e w' := by
  have ZP := blk_new9 w zR
  have ZB := (Below.refl w.heap.size w).alloc (Nat.le_refl _) zR
  obtain ⟨w1, hw1⟩ : ∃ w1, w1 = w.alloc zR := ⟨_, rfl⟩
  have HW1 := hide hw1
  rw [← hw1] at ZP ZB
  have hsz1 : w1.heap.size = w.heap.size + 1 := by rw [hw1]; simp
  clear hw1
  have HSZ1 := hide hsz1
  have ZBF := hide ZB
  have ZPF := hide ZP
  by_cases hk : 1 ≤ k ∧ k ≤ 5
  · obtain ⟨m, hm⟩ : ∃ m : Nat, (m : Int) = k := ⟨k.toNat, by omega⟩
    subst hm
    have CN := hide (specNew_any (m : Int) w1 m 1 true (fun _ => ⟨rfl, rfl, rfl⟩) (fun h => absurd hk h))
    by_cases h120 : n ≤ 120
    · have h120I : ¬ 120 < (n : Int) := by omega
      obtain ⟨e1, e2, e3⟩ := hv.yes ⟨hk, by omega⟩
      rw [Int.toNat_natCast, hn] at e1 e2
      subst e3
      obtain ⟨r0, hr0⟩ : ∃ r0, r0 = newM m := ⟨_, rfl⟩
      have hI0 : Inv r0 := by rw [hr0]; exact newM_inv m (by omega) (by omega)
      have HI0 := hide hI0
      have HR0 := hide hr0
      rw [← hr0] at e1 e2
      have HE1 := hide e1
      have HE2 := hide e2
      have HN := hide hn
      have HS := hide hs
      have HTX := hide htx
      clear hv e1 e2 hn hs htx hr0 hI0 hsz1 ZB ZP
      go_enter Try.func27, Try.ntmps27
      go_upto_region 1 with fail
      rw [← HW1.out]
      go_wp2_with fail
      refine CN.out.mono ?_
      rintro e w2 ⟨ag, cg, ad, cd, ay, cy, rfl, hO, hb2⟩
      have hRW := rw_new hO
      rw [← HR0.out] at hRW
      have HRW := hide hRW
      have HB2 := hide hb2
      obtain ⟨b, hbb⟩ : ∃ b, b = w2.heap.size := ⟨_, rfl⟩
      have HBB := hide hbb
      obtain ⟨S0, hP0⟩ := plI_start (ss := ss) ZBF.out HSZ1.out ZPF.out hb2 hRW
      have HP0 := hide hP0
      have hld : r0.ld = 0 := by rw [HR0.out]; rfl
      have hep : r0.ep = 1 := by rw [HR0.out]; rfl
      rw [hld, hep] at HP0
      rw [← hbb] at HP0
      clear hRW hO hb2 hbb hld hep hP0 HRW HB2
      obtain ⟨i0, hi, hz0, hz1, hz2⟩ := info_parts info_bool
      go_wp2
      rw [← HBB.out]
      go_loopw [9, 29] (fun did i wr => ∃ (j : Nat) (da : Option Addr) (dc : Nat) (S : Nat → Prop), j ≤ n ∧ did = .slice da j dc ∧ i = .int .i64 (j : Int) ∧ Hid (PlI w b r0 ss j da dc S wr)) (fun _ i _ => n - (intOf i).toNat)
      case atStart => exact ⟨0, none, 0, S0, Nat.zero_le _, rfl, rfl, HP0⟩
      case round =>
        obtain ⟨j, da, dc, S, hj, rfl, rfl, HP⟩ := hrel
        by_cases hlt : j < n
        · have hltI : (j : Int) < (n : Int) := by omega
          have hj0 : (0 : Int) ≤ (j : Int) := by omega
          obtain ⟨lb, lo, rfl, c0, c1, c2⟩ := HS.out j (by rw [HN.out]; exact hlt)
          have ht := HTX.out j (by rw [HN.out]; exact hlt)
          have q0 := (HP.out.bel.cell (p := ⟨lb, lo + j * 3, none⟩) (blk_lt9 c0)).trans c0
          have q1 := (HP.out.bel.cell (p := ⟨lb, lo + j * 3 + 1, none⟩) (blk_lt9 c1)).trans c1
          have q2 := (HP.out.bel.cell (p := ⟨lb, lo + j * 3 + 2, none⟩) (blk_lt9 c2)).trans c2
          obtain ⟨o, ho⟩ : ∃ o, o = stepM (plK r0 ss j).1 (ss.getD j eT) := ⟨_, rfl⟩
          obtain ⟨bo, hbo⟩ : ∃ bo, bo = o.isSome := ⟨_, rfl⟩
          obtain ⟨r, hr⟩ : ∃ r, r = (plK r0 ss j).1 := ⟨_, rfl⟩
          have hIr : Inv r := by rw [hr]; exact plK_inv HI0.out ss j
          have hRB := HP.out.box
          rw [← hr] at hRB
          obtain ⟨V, gb, cg', db, cd', ay', cy', ac', cc', hbx, hW, hSb⟩ := hRB.open hIr
          have hzz := rpz_of hIr
          have h5a := hIr.good.logs.1
          have h5b := hIr.good.down
          have h5c := rn_small hIr
          have h5d : r.ce.length ≤ 40 := by
            obtain ⟨tt, htt⟩ := hIr.cert hIr.good.lead
            have h7 : (r.ce ++ tt).length ≤ 40 := by rw [htt]; exact (hIr.good.logs.2 _ hIr.leadAt).1
            rw [List.length_append] at h7
            omega
          obtain ⟨kd, hkd⟩ : ∃ kd, kd = (ss.getD j eT).1 := ⟨_, rfl⟩
          obtain ⟨nd, hnd⟩ : ∃ nd, nd = (ss.getD j eT).2.1 := ⟨_, rfl⟩
          obtain ⟨t, htt⟩ : ∃ t, t = (ss.getD j eT).2.2 := ⟨_, rfl⟩
          rw [← hkd] at q0
          rw [← hnd] at q1
          rw [← htt] at q2 ht
          have ho' : o = stepM r (kd, nd, t) := by rw [ho, hr, hkd, hnd, htt]
          obtain ⟨R, hR⟩ : ∃ R, R = o.getD r := ⟨_, rfl⟩
          have hlo := HP.out.lo
          have hbl := (Array.getElem?_eq_some_iff.1 hbx).1
          have hA1 := (Below.refl wr.heap.size wr).alloc (Nat.le_refl _) (Obj.cells #[.int .i64 kd, .int .i64 nd, .string t] 50)
          have hsX := blk_new9 wr (Obj.cells #[.int .i64 kd, .int .i64 nd, .string t] 50)
          obtain ⟨w1', hw1'⟩ : ∃ w1', w1' = wr.alloc (Obj.cells #[.int .i64 kd, .int .i64 nd, .string t] 50) := ⟨_, rfl⟩
          rw [← hw1'] at hA1 hsX
          have hbx1 := (hA1.block b hbl).trans hbx
          have hb1 : b < w1'.heap.size := (Array.getElem?_eq_some_iff.1 hbx1).1
          have hsW : wr.heap.size < w1'.heap.size := (Array.getElem?_eq_some_iff.1 hsX).1
          have CO := hide (fun wx (hb : Below w1'.heap.size w1' wx) => own9_any (some ⟨gb, 0, none⟩) r.G.length cg' (some ⟨db, 0, none⟩) r.dn.length cd' r.ld r.ep ay' r.sy.length cy' ac' r.ce.length cc' r wx rfl rfl rfl rfl rfl rfl h5a.2 (by omega) h5c h5d hzz.ls ((hW.below hA1).rps.1.below hb) ((hW.below hA1).rps.2.below hb))
          have CS := hide (fun S2 wA (V' : List Value) gb2 cg2 db2 cd2 ay2 cy2 ac2 cc2 (hW2 : RW wA S2 V' (.slice (some ⟨gb2, 0, none⟩) r.G.length cg2) (.slice (some ⟨db2, 0, none⟩) r.dn.length cd2) (.slice ay2 r.sy.length cy2) (.slice ac2 r.ce.length cc2) r) hS2 => (sstep_any S2 V' gb2 cg2 db2 cd2 ay2 cy2 ac2 cc2 r wA hIr hW2 hS2 kd nd t ht o ho').mono (fun e w' (h : SDo S2 wA (o.getD r) o.isSome e w') => sdo_hid h))
          have RSM := hide (fun (wx : World) (S2 : Nat → Prop) (V' : List Value) (ag2 : Option Addr) (cg2 : Nat) (ad2 : Option Addr) (cd2 : Nat) (vy vc : Value) (h : RW wx S2 V' (.slice ag2 r.G.length cg2) (.slice ad2 r.dn.length cd2) vy vc r) => rw_some h hIr)
          obtain ⟨n1, hn1⟩ : ∃ x, x = r.G.length := ⟨_, rfl⟩
          obtain ⟨n2', hn2'⟩ : ∃ x, x = r.dn.length := ⟨_, rfl⟩
          obtain ⟨n3, hn3⟩ : ∃ x, x = r.sy.length := ⟨_, rfl⟩
          obtain ⟨n4, hn4⟩ : ∃ x, x = r.ce.length := ⟨_, rfl⟩
          obtain ⟨x1, hx1⟩ : ∃ x, x = r.ld := ⟨_, rfl⟩
          obtain ⟨x2, hx2⟩ : ∃ x, x = r.ep := ⟨_, rfl⟩
          obtain ⟨m1, hm1⟩ : ∃ x, x = R.G.length := ⟨_, rfl⟩
          obtain ⟨m2, hm2⟩ : ∃ x, x = R.dn.length := ⟨_, rfl⟩
          obtain ⟨m3, hm3⟩ : ∃ x, x = R.sy.length := ⟨_, rfl⟩
          obtain ⟨m4, hm4⟩ : ∃ x, x = R.ce.length := ⟨_, rfl⟩
          obtain ⟨y1, hy1⟩ : ∃ x, x = R.ld := ⟨_, rfl⟩
          obtain ⟨y2, hy2⟩ : ∃ x, x = R.ep := ⟨_, rfl⟩
          have KEEP : Hid (∀ wx : World, Below w1'.heap.size w1' wx → wx.cell? ⟨b, 0, none⟩ = some (.slice (some ⟨gb, 0, none⟩) n1 cg') ∧ wx.cell? ⟨b, 1, none⟩ = some (.slice (some ⟨db, 0, none⟩) n2' cd') ∧ wx.cell? ⟨b, 2, none⟩ = some (.int .i64 x1) ∧ wx.cell? ⟨b, 3, none⟩ = some (.int .i64 x2) ∧ wx.cell? ⟨b, 4, none⟩ = some (.slice ay' n3 cy') ∧ wx.cell? ⟨b, 5, none⟩ = some (.slice ac' n4 cc') ∧ wx.cell? ⟨wr.heap.size, 0, none⟩ = some (.int .i64 kd) ∧ wx.cell? ⟨wr.heap.size, 1, none⟩ = some (.int .i64 nd) ∧ wx.cell? ⟨wr.heap.size, 2, none⟩ = some (.string t)) := hide (fun wx hb => by
            have e1 := (hb.block b hb1).trans hbx1
            have e2 := (hb.block wr.heap.size hsW).trans hsX
            simp only [← hn1, ← hn2', ← hn3, ← hn4, ← hx1, ← hx2] at e1
            obtain ⟨k0, k1, k2, k3, k4, k5⟩ := blk6 e1
            exact ⟨k0, k1, k2, k3, k4, k5, by simp [World.cell?, e2], by simp [World.cell?, e2], by simp [World.cell?, e2]⟩)
          rw [← hR, ← hbo] at CS
          simp only [← hn1, ← hn2', ← hn3, ← hn4, ← hx1, ← hx2, ← hm1, ← hm2, ← hm3, ← hm4, ← hy1, ← hy2] at CO CS RSM
          have PUT : Hid (∀ X wx, Lf w1' R X wx m1 m2 y1 y2 m3 m4 → ∃ ag3 cg3 ad3 cd3 ay3 cy3 ac3 cc3, wx.heap[X]? = some (rpO ag3 m1 cg3 ad3 m2 cd3 y1 y2 ay3 m3 cy3 ac3 m4 cc3) ∧ Done S w1' b R ((((((wx.setCell ⟨b, 0, none⟩ (.slice ag3 m1 cg3)).setCell ⟨b, 1, none⟩ (.slice ad3 m2 cd3)).setCell ⟨b, 2, none⟩ (.int .i64 y1)).setCell ⟨b, 3, none⟩ (.int .i64 y2)).setCell ⟨b, 4, none⟩ (.slice ay3 m3 cy3)).setCell ⟨b, 5, none⟩ (.slice ac3 m4 cc3))) := hide (fun X wx h => lf_done h hbx1 hSb hb1 hy1 hy2)
          have SAME : Hid (bo = false → ∀ X wx, Lf w1' R X wx m1 m2 y1 y2 m3 m4 → Done S w1' b R wx) := hide (fun e X wx h => by
            have e0 : R = r := by
              rw [hbo] at e
              cases o with
              | none => rw [hR]; rfl
              | some x => cases e
            rw [e0]
            exact RB.same (w := w1') ⟨V, _, _, _, _, hbx1, hW.below hA1, hSb⟩ h.bel)
          rw [hr] at hR
          have HW1' := hide hw1'
          have HA1 := hide hA1
          have HO : Hid (o = stepM (plK r0 ss j).1 (ss.getD j eT)) := hide ho
          have HBO := hide hbo
          have HRR := hide hR
          have HB1 := hide hb1
          have HBX := hide hbx1
          clear c0 c1 c2 ht ho ho' hbo hkd hnd htt hr hIr hRB hbx hbx1 hW hzz h5a h5b h5c h5d hsX hA1 hw1' hn1 hn2' hn3 hn4 hx1 hx2 hm1 hm2 hm3 hm4 hy1 hy2 hSb hR hb1 hsW hlo hbl
          go_upto_region 8 with fail
          rw [← HW1'.out]
          go_cut [12, 13] (fun p okv wx => ∃ X, p = .pointer (some ⟨X, 0, none⟩) ∧ okv = .bool bo ∧ Lf w1' R X wx m1 m2 y1 y2 m3 m4)
          case first =>
            refine wp_region_held_drew (S := fun wx => wx.cell? ⟨b, 0, none⟩ = some (.slice (some ⟨gb, 0, none⟩) n1 cg') ∧ wx.cell? ⟨b, 1, none⟩ = some (.slice (some ⟨db, 0, none⟩) n2' cd') ∧ wx.cell? ⟨b, 2, none⟩ = some (.int .i64 x1) ∧ wx.cell? ⟨b, 3, none⟩ = some (.int .i64 x2) ∧ wx.cell? ⟨b, 4, none⟩ = some (.slice ay' n3 cy') ∧ wx.cell? ⟨b, 5, none⟩ = some (.slice ac' n4 cc') ∧ wx.cell? ⟨wr.heap.size, 0, none⟩ = some (.int .i64 kd) ∧ wx.cell? ⟨wr.heap.size, 1, none⟩ = some (.int .i64 nd) ∧ wx.cell? ⟨wr.heap.size, 2, none⟩ = some (.string t)) (by kernel_rfl) (KEEP.out _ (Below.refl _ _).drew) (fun hHeld => ?_)
            refine wpAnyH_take (i := 0) (v := ?vp1_) rfl (by kernel_rfl) (by kernel_rfl) (by kernel_rfl) (fun _ _ _ h => h) (Or.inl ⟨by rfl, ?yp1_⟩) (by assumption) ?rp1_
            case yp1_ => (intro w hSw; (try dsimp only at hSw); go_simp; try (with_reducible rfl))
            simp only [List.getElem_toArray, List.getElem_cons_zero, Act.put, List.setIfInBounds_toArray, List.set_cons_zero, List.set_cons_succ]
            refine wpAnyH_take (i := 2) (v := ?vp2_) rfl (by kernel_rfl) (by kernel_rfl) (by kernel_rfl) (fun _ _ _ h => h) (Or.inl ⟨by rfl, ?yp2_⟩) (by assumption) ?rp2_
            case yp2_ => (intro w hSw; (try dsimp only at hSw); go_simp; try (with_reducible rfl))
            simp only [List.getElem_toArray, List.getElem_cons_succ, List.getElem_cons_zero, Act.put, List.setIfInBounds_toArray, List.set_cons_zero, List.set_cons_succ]
            refine wpAnyH_ready (rs := [1, 7]) (by kernel_rfl) (by simp) ?_
            refine AllReadyH.cons rfl (fun K hK => ?_) (AllReadyH.cons rfl (fun K hK => ?_) AllReadyH.nil)
            · skip
              simp only [List.getElem_toArray, List.getElem_cons_succ, List.getElem_cons_zero]
              go_simp
              go_at_call 65
              refine (CO.out _ ((Below.refl w1'.heap.size w1').drew)).mono ?_
              rintro e w2 ⟨V2, ag2, cg2, ad2, cd2, ay2, cy2, ac2, cc2, rfl, hW2, hb2⟩
              obtain ⟨gb2, db2, rfl, rfl⟩ := RSM.out _ _ _ _ _ _ _ _ _ hW2
              have hB2 := ((Below.refl w1'.heap.size w1').drew).trans (hb2.mono ((Below.refl w1'.heap.size w1').drew).size)
              have HB2 := hide hB2
              have HW2 := hide hW2
              have Hb2 := hide hb2
              clear hB2 hW2 hb2
              dsimp only
              refine hK.out _ _ ?_ (fun hHeld => ?_)
              · exact KEEP.out _ HB2.out
              clear hK K
              try simp only [Act.put, List.setIfInBounds_toArray, List.set_cons_zero, List.set_cons_succ]
              refine wpAnyH_ready (rs := [3, 7]) (by kernel_rfl) (by simp) ?_
              refine AllReadyH.cons rfl (fun K hK => ?_) (AllReadyH.cons rfl (fun K hK => ?_) AllReadyH.nil)
              · skip
                simp only [List.getElem_toArray, List.getElem_cons_succ, List.getElem_cons_zero]
                go_simp
                go_at_call 64
                refine (CS.out (fun q => w1'.heap.size ≤ q ∧ q < w2.heap.size) w2 V2 gb2 cg2 db2 cd2 ay2 cy2 ac2 cc2 (HW2.out) (fun q hq => hq.2)).mono ?_
                rintro e w3 ⟨V3, ag3, cg3, ad3, cd3, ay3, cy3, ac3, cc3, rfl, HW3, HK3⟩
                dsimp only
                refine hK.out _ _ ?_ (fun hHeld => ?_)
                · exact KEEP.out _ (bel_kept HB2.out HK3.out (fun q hq => hq.1))
                clear hK K
                try simp only [Act.put, List.setIfInBounds_toArray, List.set_cons_zero, List.set_cons_succ]
                refine wpAnyH_take (i := 4) (v := ?vp3_) rfl (by kernel_rfl) (by kernel_rfl) (by kernel_rfl) (fun _ _ _ h => h) (Or.inl ⟨by rfl, ?yp3_⟩) (by assumption) ?rp3_
                case yp3_ => (intro w hSw; (try dsimp only at hSw); go_simp; try (with_reducible rfl))
                simp only [List.getElem_toArray, List.getElem_cons_succ, List.getElem_cons_zero, Act.put, List.setIfInBounds_toArray, List.set_cons_zero, List.set_cons_succ]
                refine wpAnyH_take (i := 5) (v := ?vp4_) rfl (by kernel_rfl) (by kernel_rfl) (by kernel_rfl) (fun _ _ _ h => h) (Or.inl ⟨by rfl, ?yp4_⟩) (by assumption) ?rp4_
                case yp4_ => (intro w hSw; (try dsimp only at hSw); go_simp; try (with_reducible rfl))
                simp only [List.getElem_toArray, List.getElem_cons_succ, List.getElem_cons_zero, Act.put, List.setIfInBounds_toArray, List.set_cons_zero, List.set_cons_succ]
                refine wpAnyH_take (i := 6) (v := ?vp5_) rfl (by kernel_rfl) (by kernel_rfl) (by kernel_rfl) (fun _ _ _ h => h) (Or.inl ⟨by rfl, ?yp5_⟩) (by assumption) ?rp5_
                case yp5_ => (intro w hSw; (try dsimp only at hSw); go_simp; try (with_reducible rfl))
                simp only [List.getElem_toArray, List.getElem_cons_succ, List.getElem_cons_zero, Act.put, List.setIfInBounds_toArray, List.set_cons_zero, List.set_cons_succ]
                refine wpAnyH_ready (rs := [7]) (by kernel_rfl) (by simp) ?_
                refine AllReadyH.cons rfl (fun K hK => ?_) AllReadyH.nil
                simp only [List.getElem_toArray, List.getElem_cons_succ, List.getElem_cons_zero]
                go_simp
                refine hK.out _ _ ?_ (fun hHeld => ?_)
                · exact KEEP.out _ ((bel_kept HB2.out HK3.out (fun q hq => hq.1)).alloc (Nat.le_trans HB2.out.size HK3.out.size) _)
                clear hK K
                try simp only [Act.put, List.setIfInBounds_toArray, List.set_cons_zero, List.set_cons_succ]
                have HX3 := blk_new9 w3 (.cells #[.slice none 0 0, .slice none 0 0, .int .i64 0, .int .i64 0, .slice none 0 0, .slice none 0 0] 32 (0, 0))
                have LF : Hid (Lf w1' R w3.heap.size (w3.alloc (rpO ag3 m1 cg3 ad3 m2 cd3 y1 y2 ay3 m3 cy3 ac3 m4 cc3)) m1 m2 y1 y2 m3 m4) := hide (lf_new HW3.out (bel_kept HB2.out HK3.out (fun q hq => hq.1)) (fun q hq => (by rcases hq with hq | hq; exact hq.1; exact Nat.le_trans HB2.out.size hq.1)) (grow_lt (fun q hq => hq.2) HK3.out.size))
                obtain ⟨x_0, x_1, x_2, x_3, x_4, x_5⟩ := blk6 HX3
                have x_f : ∀ i, (w3.alloc (.cells #[.slice none 0 0, .slice none 0 0, .int .i64 0, .int .i64 0, .slice none 0 0, .slice none 0 0] 32 (0, 0))).frozen? ⟨w3.heap.size, i, none⟩ = false := fun i => frz HX3 i
                refine wpAnyH_ready (rs := [8]) (by kernel_rfl) (by simp) ?_
                refine AllReadyH.cons rfl (fun K hK => ?_) AllReadyH.nil
                simp only [List.getElem_toArray, List.getElem_cons_succ, List.getElem_cons_zero]
                go_simp
                refine hK.out _ _ ?_ (fun hHeld => ?_)
                · exact KEEP.out _ LF.out.bel
                clear hK K
                try simp only [Act.put, List.setIfInBounds_toArray, List.set_cons_zero, List.set_cons_succ]
                refine wpAnyH_take (i := 9) (v := ?vp6_) rfl (by kernel_rfl) (by kernel_rfl) (by kernel_rfl) (fun _ _ _ h => h) (Or.inl ⟨by rfl, ?yp6_⟩) (by assumption) ?rp6_
                case yp6_ => (intro w hSw; (try dsimp only at hSw); go_simp; try (with_reducible rfl))
                simp only [List.getElem_toArray, List.getElem_cons_succ, List.getElem_cons_zero, Act.put, List.setIfInBounds_toArray, List.set_cons_zero, List.set_cons_succ]
                refine wpAnyH_done (by kernel_rfl) ?_ _
                clear hHeld x_0 x_1 x_2 x_3 x_4 x_5 x_f
                go_wp2_with fail
                go_meet
                exact ⟨_, rfl, rfl, LF.out⟩
              · skip
                simp only [List.getElem_toArray, List.getElem_cons_succ, List.getElem_cons_zero]
                go_simp
                refine hK.out _ _ ?_ (fun hHeld => ?_)
                · exact KEEP.out _ (HB2.out.alloc HB2.out.size _)
                clear hK K
                try simp only [Act.put, List.setIfInBounds_toArray, List.set_cons_zero, List.set_cons_succ]
                have HA2 := hide ((Below.refl w2.heap.size w2).alloc (Nat.le_refl _) (.cells #[.slice none 0 0, .slice none 0 0, .int .i64 0, .int .i64 0, .slice none 0 0, .slice none 0 0] 32 (0, 0)))
                have HZ2 : Hid ((w2.alloc (.cells #[.slice none 0 0, .slice none 0 0, .int .i64 0, .int .i64 0, .slice none 0 0, .slice none 0 0] 32 (0, 0))).heap.size = w2.heap.size + 1) := hide (by simp)
                refine wpAnyH_ready (rs := [3]) (by kernel_rfl) (by simp) ?_
                refine AllReadyH.cons rfl (fun K hK => ?_) AllReadyH.nil
                simp only [List.getElem_toArray, List.getElem_cons_succ, List.getElem_cons_zero]
                go_simp
                go_at_call 64
                refine (CS.out (fun q => w1'.heap.size ≤ q ∧ q < w2.heap.size) (w2.alloc (.cells #[.slice none 0 0, .slice none 0 0, .int .i64 0, .int .i64 0, .slice none 0 0, .slice none 0 0] 32 (0, 0))) V2 gb2 cg2 db2 cd2 ay2 cy2 ac2 cc2 (HW2.out.below HA2.out) (fun q hq => (by have := hq.2; have := HZ2.out; omega))).mono ?_
                rintro e w3 ⟨V3, ag3, cg3, ad3, cd3, ay3, cy3, ac3, cc3, rfl, HW3, HK3⟩
                dsimp only
                refine hK.out _ _ ?_ (fun hHeld => ?_)
                · exact KEEP.out _ (bel_kept (HB2.out.alloc HB2.out.size _) HK3.out (fun q hq => hq.1))
                clear hK K
                try simp only [Act.put, List.setIfInBounds_toArray, List.set_cons_zero, List.set_cons_succ]
                refine wpAnyH_take (i := 4) (v := ?vp7_) rfl (by kernel_rfl) (by kernel_rfl) (by kernel_rfl) (fun _ _ _ h => h) (Or.inl ⟨by rfl, ?yp7_⟩) (by assumption) ?rp7_
                case yp7_ => (intro w hSw; (try dsimp only at hSw); go_simp; try (with_reducible rfl))
                simp only [List.getElem_toArray, List.getElem_cons_succ, List.getElem_cons_zero, Act.put, List.setIfInBounds_toArray, List.set_cons_zero, List.set_cons_succ]
                refine wpAnyH_take (i := 5) (v := ?vp8_) rfl (by kernel_rfl) (by kernel_rfl) (by kernel_rfl) (fun _ _ _ h => h) (Or.inl ⟨by rfl, ?yp8_⟩) (by assumption) ?rp8_
                case yp8_ => (intro w hSw; (try dsimp only at hSw); go_simp; try (with_reducible rfl))
                simp only [List.getElem_toArray, List.getElem_cons_succ, List.getElem_cons_zero, Act.put, List.setIfInBounds_toArray, List.set_cons_zero, List.set_cons_succ]
                refine wpAnyH_take (i := 6) (v := ?vp9_) rfl (by kernel_rfl) (by kernel_rfl) (by kernel_rfl) (fun _ _ _ h => h) (Or.inl ⟨by rfl, ?yp9_⟩) (by assumption) ?rp9_
                case yp9_ => (intro w hSw; (try dsimp only at hSw); go_simp; try (with_reducible rfl))
                simp only [List.getElem_toArray, List.getElem_cons_succ, List.getElem_cons_zero, Act.put, List.setIfInBounds_toArray, List.set_cons_zero, List.set_cons_succ]
                have HX3 : w3.heap[w2.heap.size]? = some (.cells #[.slice none 0 0, .slice none 0 0, .int .i64 0, .int .i64 0, .slice none 0 0, .slice none 0 0] 32 (0, 0)) := (HK3.out.block w2.heap.size (by have := HZ2.out; omega) (fun hq => by have := hq.2; omega)).trans (blk_new9 w2 _)
                have LF : Hid (Lf w1' R w2.heap.size ((((((w3.setCell ⟨w2.heap.size, 0, none⟩ (.slice ag3 m1 cg3)).setCell ⟨w2.heap.size, 1, none⟩ (.slice ad3 m2 cd3)).setCell ⟨w2.heap.size, 2, none⟩ (.int .i64 y1)).setCell ⟨w2.heap.size, 3, none⟩ (.int .i64 y2)).setCell ⟨w2.heap.size, 4, none⟩ (.slice ay3 m3 cy3)).setCell ⟨w2.heap.size, 5, none⟩ (.slice ac3 m4 cc3)) m1 m2 y1 y2 m3 m4) := hide (lf_set HW3.out (bel_kept (HB2.out.alloc HB2.out.size _) HK3.out (fun q hq => hq.1)) (fun q hq => (by rcases hq with hq | hq; exact hq.1; exact Nat.le_trans (HB2.out.alloc HB2.out.size _).size hq.1)) (grow_lt (fun q hq => by have := hq.2; have := HZ2.out; omega) HK3.out.size) HX3 HB2.out.size (fun hq => (by rcases hq with hq | hq; exact Nat.lt_irrefl _ hq.2; have := HZ2.out; omega)) )
                obtain ⟨x_0, x_1, x_2, x_3, x_4, x_5⟩ := blk6 HX3
                have x_f : ∀ i, w3.frozen? ⟨w2.heap.size, i, none⟩ = false := fun i => frz HX3 i
                refine wpAnyH_ready (rs := [8]) (by kernel_rfl) (by simp) ?_
                refine AllReadyH.cons rfl (fun K hK => ?_) AllReadyH.nil
                simp only [List.getElem_toArray, List.getElem_cons_succ, List.getElem_cons_zero]
                go_simp
                refine hK.out _ _ ?_ (fun hHeld => ?_)
                · exact KEEP.out _ LF.out.bel
                clear hK K
                try simp only [Act.put, List.setIfInBounds_toArray, List.set_cons_zero, List.set_cons_succ]
                refine wpAnyH_take (i := 9) (v := ?vp10_) rfl (by kernel_rfl) (by kernel_rfl) (by kernel_rfl) (fun _ _ _ h => h) (Or.inl ⟨by rfl, ?yp10_⟩) (by assumption) ?rp10_
                case yp10_ => (intro w hSw; (try dsimp only at hSw); go_simp; try (with_reducible rfl))
                simp only [List.getElem_toArray, List.getElem_cons_succ, List.getElem_cons_zero, Act.put, List.setIfInBounds_toArray, List.set_cons_zero, List.set_cons_succ]
                refine wpAnyH_done (by kernel_rfl) ?_ _
                clear hHeld x_0 x_1 x_2 x_3 x_4 x_5 x_f
                go_wp2_with fail
                go_meet
                exact ⟨_, rfl, rfl, LF.out⟩
            · skip
              simp only [List.getElem_toArray, List.getElem_cons_succ, List.getElem_cons_zero]
              go_simp
              refine hK.out _ _ ?_ (fun hHeld => ?_)
              · exact KEEP.out _ ((Below.refl w1'.heap.size w1').drew.alloc (Nat.le_refl _) _)
              clear hK K
              try simp only [Act.put, List.setIfInBounds_toArray, List.set_cons_zero, List.set_cons_succ]
              refine wpAnyH_ready (rs := [1]) (by kernel_rfl) (by simp) ?_
              refine AllReadyH.cons rfl (fun K hK => ?_) AllReadyH.nil
              simp only [List.getElem_toArray, List.getElem_cons_succ, List.getElem_cons_zero]
              go_simp
              go_at_call 65
              refine (CO.out _ (((Below.refl w1'.heap.size w1').drew.alloc (Nat.le_refl _) (.cells #[.slice none 0 0, .slice none 0 0, .int .i64 0, .int .i64 0, .slice none 0 0, .slice none 0 0] 32 (0, 0))))).mono ?_
              rintro e w2 ⟨V2, ag2, cg2, ad2, cd2, ay2, cy2, ac2, cc2, rfl, hW2, hb2⟩
              obtain ⟨gb2, db2, rfl, rfl⟩ := RSM.out _ _ _ _ _ _ _ _ _ hW2
              have hB2 := (((Below.refl w1'.heap.size w1').drew.alloc (Nat.le_refl _) (.cells #[.slice none 0 0, .slice none 0 0, .int .i64 0, .int .i64 0, .slice none 0 0, .slice none 0 0] 32 (0, 0)))).trans (hb2.mono (((Below.refl w1'.heap.size w1').drew.alloc (Nat.le_refl _) (.cells #[.slice none 0 0, .slice none 0 0, .int .i64 0, .int .i64 0, .slice none 0 0, .slice none 0 0] 32 (0, 0)))).size)
              have HB2 := hide hB2
              have HW2 := hide hW2
              have Hb2 := hide hb2
              clear hB2 hW2 hb2
              dsimp only
              refine hK.out _ _ ?_ (fun hHeld => ?_)
              · exact KEEP.out _ HB2.out
              clear hK K
              try simp only [Act.put, List.setIfInBounds_toArray, List.set_cons_zero, List.set_cons_succ]
              have HZ1 : Hid ((w1'.drew.alloc (.cells #[.slice none 0 0, .slice none 0 0, .int .i64 0, .int .i64 0, .slice none 0 0, .slice none 0 0] 32 (0, 0))).heap.size = w1'.heap.size + 1) := hide (by show (World.alloc _ _).heap.size = w1'.drew.heap.size + 1; simp)
              refine wpAnyH_ready (rs := [3]) (by kernel_rfl) (by simp) ?_
              refine AllReadyH.cons rfl (fun K hK => ?_) AllReadyH.nil
              simp only [List.getElem_toArray, List.getElem_cons_succ, List.getElem_cons_zero]
              go_simp
              go_at_call 64
              refine (CS.out (fun q => (w1'.drew.alloc (.cells #[.slice none 0 0, .slice none 0 0, .int .i64 0, .int .i64 0, .slice none 0 0, .slice none 0 0] 32 (0, 0))).heap.size ≤ q ∧ q < w2.heap.size) w2 V2 gb2 cg2 db2 cd2 ay2 cy2 ac2 cc2 (HW2.out) (fun q hq => hq.2)).mono ?_
              rintro e w3 ⟨V3, ag3, cg3, ad3, cd3, ay3, cy3, ac3, cc3, rfl, HW3, HK3⟩
              dsimp only
              refine hK.out _ _ ?_ (fun hHeld => ?_)
              · exact KEEP.out _ (bel_kept HB2.out HK3.out (fun q hq => by have := hq.1; have := HZ1.out; omega))
              clear hK K
              try simp only [Act.put, List.setIfInBounds_toArray, List.set_cons_zero, List.set_cons_succ]
              refine wpAnyH_take (i := 4) (v := ?vp11_) rfl (by kernel_rfl) (by kernel_rfl) (by kernel_rfl) (fun _ _ _ h => h) (Or.inl ⟨by rfl, ?yp11_⟩) (by assumption) ?rp11_
              case yp11_ => (intro w hSw; (try dsimp only at hSw); go_simp; try (with_reducible rfl))
              simp only [List.getElem_toArray, List.getElem_cons_succ, List.getElem_cons_zero, Act.put, List.setIfInBounds_toArray, List.set_cons_zero, List.set_cons_succ]
              refine wpAnyH_take (i := 5) (v := ?vp12_) rfl (by kernel_rfl) (by kernel_rfl) (by kernel_rfl) (fun _ _ _ h => h) (Or.inl ⟨by rfl, ?yp12_⟩) (by assumption) ?rp12_
              case yp12_ => (intro w hSw; (try dsimp only at hSw); go_simp; try (with_reducible rfl))
              simp only [List.getElem_toArray, List.getElem_cons_succ, List.getElem_cons_zero, Act.put, List.setIfInBounds_toArray, List.set_cons_zero, List.set_cons_succ]
              refine wpAnyH_take (i := 6) (v := ?vp13_) rfl (by kernel_rfl) (by kernel_rfl) (by kernel_rfl) (fun _ _ _ h => h) (Or.inl ⟨by rfl, ?yp13_⟩) (by assumption) ?rp13_
              case yp13_ => (intro w hSw; (try dsimp only at hSw); go_simp; try (with_reducible rfl))
              simp only [List.getElem_toArray, List.getElem_cons_succ, List.getElem_cons_zero, Act.put, List.setIfInBounds_toArray, List.set_cons_zero, List.set_cons_succ]
              have HX3 : w3.heap[w1'.heap.size]? = some (.cells #[.slice none 0 0, .slice none 0 0, .int .i64 0, .int .i64 0, .slice none 0 0, .slice none 0 0] 32 (0, 0)) := (HK3.out.block w1'.heap.size (by have := Hb2.out.size; have := HZ1.out; omega) (fun hq => by have := hq.1; have := HZ1.out; omega)).trans ((Hb2.out.block w1'.heap.size (by have := HZ1.out; omega)).trans (blk_new9 w1'.drew _))
              have LF : Hid (Lf w1' R w1'.heap.size ((((((w3.setCell ⟨w1'.heap.size, 0, none⟩ (.slice ag3 m1 cg3)).setCell ⟨w1'.heap.size, 1, none⟩ (.slice ad3 m2 cd3)).setCell ⟨w1'.heap.size, 2, none⟩ (.int .i64 y1)).setCell ⟨w1'.heap.size, 3, none⟩ (.int .i64 y2)).setCell ⟨w1'.heap.size, 4, none⟩ (.slice ay3 m3 cy3)).setCell ⟨w1'.heap.size, 5, none⟩ (.slice ac3 m4 cc3)) m1 m2 y1 y2 m3 m4) := hide (lf_set HW3.out (bel_kept HB2.out HK3.out (fun q hq => by have := hq.1; have := HZ1.out; omega)) (fun q hq => (by rcases hq with hq | hq; (have := hq.1; have := HZ1.out; omega); exact Nat.le_trans HB2.out.size hq.1)) (grow_lt (fun q hq => hq.2) HK3.out.size) HX3 (Nat.le_refl _) (fun hq => (by rcases hq with hq | hq; (have := hq.1; have := HZ1.out; omega); (have := hq.1; have := Hb2.out.size; have := HZ1.out; omega))))
              obtain ⟨x_0, x_1, x_2, x_3, x_4, x_5⟩ := blk6 HX3
              have x_f : ∀ i, w3.frozen? ⟨w1'.heap.size, i, none⟩ = false := fun i => frz HX3 i
              refine wpAnyH_ready (rs := [8]) (by kernel_rfl) (by simp) ?_
              refine AllReadyH.cons rfl (fun K hK => ?_) AllReadyH.nil
              simp only [List.getElem_toArray, List.getElem_cons_succ, List.getElem_cons_zero]
              go_simp
              refine hK.out _ _ ?_ (fun hHeld => ?_)
              · exact KEEP.out _ LF.out.bel
              clear hK K
              try simp only [Act.put, List.setIfInBounds_toArray, List.set_cons_zero, List.set_cons_succ]
              refine wpAnyH_take (i := 9) (v := ?vp14_) rfl (by kernel_rfl) (by kernel_rfl) (by kernel_rfl) (fun _ _ _ h => h) (Or.inl ⟨by rfl, ?yp14_⟩) (by assumption) ?rp14_
              case yp14_ => (intro w hSw; (try dsimp only at hSw); go_simp; try (with_reducible rfl))
              simp only [List.getElem_toArray, List.getElem_cons_succ, List.getElem_cons_zero, Act.put, List.setIfInBounds_toArray, List.set_cons_zero, List.set_cons_succ]
              refine wpAnyH_done (by kernel_rfl) ?_ _
              clear hHeld x_0 x_1 x_2 x_3 x_4 x_5 x_f
              go_wp2_with fail
              go_meet
              exact ⟨_, rfl, rfl, LF.out⟩
          case rest =>
            obtain ⟨X, rfl, rfl, hL⟩ := hcut
            obtain ⟨ag3, cg3, ad3, cd3, ay3, cy3, ac3, cc3, hX, hD⟩ := PUT.out X _ hL
            have HL := hide hL
            obtain ⟨wc', hwc⟩ : ∃ wc', wc' = wc := ⟨_, rfl⟩
            obtain ⟨e0, e1, e2, e3, e4, e5⟩ := blk6 hX
            have hbb := (hL.bel.block b HB1.out).trans HBX.out
            obtain ⟨k0, k1, k2, k3, k4, k5⟩ := blk6 hbb
            have kf : ∀ i, wc.frozen? ⟨b, i, none⟩ = false := fun i => frz hbb i
            have HD := hide hD
            clear hL hD hX hbb hwc
            cases bo with
            | true =>
              go_upto_region 11 with fail
              obtain ⟨w4, hw4⟩ : ∃ w4, w4 = ((((((wc.setCell ⟨b, 0, none⟩ (.slice ag3 m1 cg3)).setCell ⟨b, 1, none⟩ (.slice ad3 m2 cd3)).setCell ⟨b, 2, none⟩ (.int .i64 y1)).setCell ⟨b, 3, none⟩ (.int .i64 y2)).setCell ⟨b, 4, none⟩ (.slice ay3 m3 cy3)).setCell ⟨b, 5, none⟩ (.slice ac3 m4 cc3)) := ⟨_, rfl⟩
              rw [← hw4] at HD ⊢
              clear hw4 e0 e1 e2 e3 e4 e5 k0 k1 k2 k3 k4 k5 kf HL PUT SAME CO CS
              rw [HRR.out] at HD
              have O1 := hide (HP.out.didAt HA1.out HD.out)
              have hb4 : w.heap.size ≤ (w4.alloc (.cells #[.bool true] 4)).heap.size := by have h1 := HP.out.bel.size; have h2 := HD.out.2.size; have h3 := HA1.out.size; simp; omega
              go_wp2_with (first
                | (at_builtin; refine wpList_append_own_at _ rfl _ _ 29 rfl w.heap.size 4 i0 (.bool false) 1 1 Try.underlying29 hi hz0 hz1 hz2 rfl (by decide) (.slice da j dc) j _ rfl (O1.out _) ⟨w4.heap.size, 0, none⟩ 1 1 [.bool true] rfl rfl (cell_one_new9 _ _ _) (by intro u hu; simp at hu; subst hu; rfl) (by unfold maxLen; omega) (by omega) hb4 ?_)
                | go_in)
              intro v6 w6 hown6 hg6 _ hb6
              rw [HBO.out] at hown6
              obtain ⟨da', dc', S', rfl, hP'⟩ := HP.out.next HO.out HA1.out HD.out hown6 hg6 (by rcases hb6 with e | e; exact .inl e; exact .inr (by rw [e]; simp))
              have HP' := hide hP'
              clear hown6 hg6 hb6 O1 HD HP hP'
              go_wp2
              go_roundw
              case rel => exact ⟨j + 1, da', dc', S', by omega, rfl, by go_num, HP'⟩
              case measure => simp [intOf]; omega
            | false =>
              have HD := hide (SAME.out rfl X _ HL.out)
              obtain ⟨w4, hw4⟩ : ∃ w4, w4 = wc := ⟨_, rfl⟩
              go_upto_region 11 with fail
              rw [← hw4] at HD ⊢
              clear hw4 e0 e1 e2 e3 e4 e5 k0 k1 k2 k3 k4 k5 kf HL PUT SAME CO CS
              rw [HRR.out] at HD
              have O1 := hide (HP.out.didAt HA1.out HD.out)
              have hb4 : w.heap.size ≤ (w4.alloc (.cells #[.bool false] 4)).heap.size := by have h1 := HP.out.bel.size; have h2 := HD.out.2.size; have h3 := HA1.out.size; simp; omega
              go_wp2_with (first
                | (at_builtin; refine wpList_append_own_at _ rfl _ _ 29 rfl w.heap.size 4 i0 (.bool false) 1 1 Try.underlying29 hi hz0 hz1 hz2 rfl (by decide) (.slice da j dc) j _ rfl (O1.out _) ⟨w4.heap.size, 0, none⟩ 1 1 [.bool false] rfl rfl (cell_one_new9 _ _ _) (by intro u hu; simp at hu; subst hu; rfl) (by unfold maxLen; omega) (by omega) hb4 ?_)
                | go_in)
              intro v6 w6 hown6 hg6 _ hb6
              rw [HBO.out] at hown6
              obtain ⟨da', dc', S', rfl, hP'⟩ := HP.out.next HO.out HA1.out HD.out hown6 hg6 (by rcases hb6 with e | e; exact .inl e; exact .inr (by rw [e]; simp))
              have HP' := hide hP'
              clear hown6 hg6 hb6 O1 HD HP hP'
              go_wp2
              go_roundw
              case rel => exact ⟨j + 1, da', dc', S', by omega, rfl, by go_num, HP'⟩
              case measure => simp [intOf]; omega
        · obtain rfl : j = n := by omega
          have hltI : ¬ (j : Int) < (j : Int) := by omega
          have hIR := plK_inv HI0.out ss j
          have hbx := HP.out.box
          rw [← HE1.out] at hIR hbx
          obtain ⟨V, gb, cg', db, cd', ay', cy', ac, cc, hb, hW, _⟩ := hbx.open hIR
          have hzz := rpz_of hIR
          have h5a := hIR.good.logs.1
          have h5b := hIR.good.down
          have h5c := rn_small hIR
          have h5d : R.ce.length ≤ 40 := by
            obtain ⟨tt, htt⟩ := hIR.cert hIR.good.lead
            have h7 : (R.ce ++ tt).length ≤ 40 := by rw [htt]; exact (hIR.good.logs.2 _ hIR.leadAt).1
            rw [List.length_append] at h7
            omega
          obtain ⟨k0, k1, k2, k3, k4, k5⟩ := blk6 hb
          have CO := hide (own9_any (some ⟨gb, 0, none⟩) R.G.length cg' (some ⟨db, 0, none⟩) R.dn.length cd' R.ld R.ep ay' R.sy.length cy' ac R.ce.length cc R wr rfl rfl rfl rfl rfl rfl h5a.2 (by omega) h5c h5d hzz.ls hW.rps.1 hW.rps.2)
          have FIN := hide (fun w5 V5 ag5 cg5 ad5 cd5 ay5 cy5 ac5 cc5 (hW5 : RW w5 (fun q => wr.heap.size ≤ q ∧ q < w5.heap.size) V5 (.slice ag5 R.G.length cg5) (.slice ad5 R.dn.length cd5) (.slice ay5 R.sy.length cy5) (.slice ac5 R.ce.length cc5) R) (hb5 : Below wr.heap.size wr w5) v0 v1 v2 v3 v4 v5 e he => HP.out.out2 HE1.out HE2.out hW5 hb5 v0 v1 v2 v3 v4 v5 e he)
          obtain ⟨n1, hn1⟩ : ∃ x, x = R.G.length := ⟨_, rfl⟩
          obtain ⟨n2', hn2'⟩ : ∃ x, x = R.dn.length := ⟨_, rfl⟩
          obtain ⟨n3, hn3⟩ : ∃ x, x = R.sy.length := ⟨_, rfl⟩
          obtain ⟨n4, hn4⟩ : ∃ x, x = R.ce.length := ⟨_, rfl⟩
          obtain ⟨x1, hx1⟩ : ∃ x, x = R.ld := ⟨_, rfl⟩
          obtain ⟨x2, hx2⟩ : ∃ x, x = R.ep := ⟨_, rfl⟩
          simp only [← hn1, ← hn2', ← hn3, ← hn4, ← hx1, ← hx2] at FIN CO k0 k1 k2 k3 k4 k5
          clear hIR hbx hb hW hn1 hn2' hn3 hn4 hx1 hx2 hzz h5a h5b h5c h5d
          go_wp2_with fail
          refine CO.out.mono ?_
          rintro e w5 ⟨V5, ag5, cg5, ad5, cd5, ay5, cy5, ac5, cc5, rfl, hW5, hb5⟩
          have hres := (hb5.block _ (Array.getElem?_eq_some_iff.1 HP.out.res).1).trans HP.out.res
          obtain ⟨z0, z1, z2, z3, z4, z5⟩ := blk6 hres
          have zf : ∀ i, w5.frozen? ⟨w.heap.size, i, none⟩ = false := fun i => frz hres i
          have FIN2 := hide (FIN.out w5 V5 ag5 cg5 ad5 cd5 ay5 cy5 ac5 cc5 hW5 hb5)
          clear hres hW5 hb5 FIN CO k0 k1 k2 k3 k4 k5
          go_wp2
          refine bodyPost_ret (v := .tuple #[rpV ag5 n1 cg5 ad5 n2' cd5 x1 x2 ay5 n3 cy5 ac5 n4 cc5, .slice da j dc, .bool true]) (by simp [results, Try.f27, go_sem, z0, z1, z2, z3, z4, z5]) rfl ?_
          exact FIN2.out _ _ _ _ _ _ _ rfl
    · have h120I : 120 < (n : Int) := by omega
      obtain ⟨e1, e2, e3⟩ := hv.no (fun h => h120 (by omega))
      subst e1
      subst e2
      subst e3
      clear hv hn hs htx hsz1 ZB ZP
      go_enter Try.func27, Try.ntmps27
      go_upto_region 1 with fail
      rw [← HW1.out]
      go_wp2_with fail
      refine CN.out.mono ?_
      rintro e w2 ⟨ag, cg, ad, cd, ay, cy, rfl, hO, hb2⟩
      have hb9 := ZBF.out.trans (hb2.mono ZBF.out.size)
      have zr := (hb2.block _ (Array.getElem?_eq_some_iff.1 ZPF.out).1).trans ZPF.out
      have zr2 : ∀ ob, (w2.alloc ob).heap[w.heap.size]? = some zR := fun ob => (((Below.refl w2.heap.size w2).alloc (Nat.le_refl _) ob).block _ (Array.getElem?_eq_some_iff.1 zr).1).trans zr
      have zc := fun ob => blk6 (zr2 ob)
      have z0 := fun ob => (zc ob).1
      have z1 := fun ob => (zc ob).2.1
      have z2 := fun ob => (zc ob).2.2.1
      have z3 := fun ob => (zc ob).2.2.2.1
      have z4 := fun ob => (zc ob).2.2.2.2.1
      have z5 := fun ob => (zc ob).2.2.2.2.2
      have zf : ∀ ob i, (w2.alloc ob).frozen? ⟨w.heap.size, i, none⟩ = false := fun ob i => frz (zr2 ob) i
      have HB9 := hide (fun ob => hb9.alloc hb9.size ob)
      clear hO hb2 hb9 zr zr2 zc
      go_wp2
      refine bodyPost_ret (v := .tuple #[rpV none 0 0 none 0 0 0 0 none 0 0 none 0 0, .slice none 0 0, .bool false]) (by simp [results, Try.f27, go_sem, z0, z1, z2, z3, z4, z5]) rfl ?_
      exact playRet_none (six_bel _ _ _ _ _ _ (HB9.out _) (Nat.le_refl _))
  · have CN := hide (specNew_any k w1 0 0 false (fun h => absurd h hk) (fun _ => ⟨rfl, rfl, rfl⟩))
    obtain ⟨e1, e2, e3⟩ := hv.no (fun h => hk h.1)
    subst e1
    subst e2
    subst e3
    clear hv hn hs htx hsz1 ZB ZP
    go_enter Try.func27, Try.ntmps27
    go_upto_region 1 with fail
    rw [← HW1.out]
    go_wp2_with fail
    refine CN.out.mono ?_
    rintro e w2 ⟨ag, cg, ad, cd, ay, cy, rfl, hO, hb2⟩
    have hb9 := ZBF.out.trans (hb2.mono ZBF.out.size)
    have zr := (hb2.block _ (Array.getElem?_eq_some_iff.1 ZPF.out).1).trans ZPF.out
    have zr2 : ∀ ob, (w2.alloc ob).heap[w.heap.size]? = some zR := fun ob => (((Below.refl w2.heap.size w2).alloc (Nat.le_refl _) ob).block _ (Array.getElem?_eq_some_iff.1 zr).1).trans zr
    have zc := fun ob => blk6 (zr2 ob)
    have z0 := fun ob => (zc ob).1
    have z1 := fun ob => (zc ob).2.1
    have z2 := fun ob => (zc ob).2.2.1
    have z3 := fun ob => (zc ob).2.2.2.1
    have z4 := fun ob => (zc ob).2.2.2.2.1
    have z5 := fun ob => (zc ob).2.2.2.2.2
    have zf : ∀ ob i, (w2.alloc ob).frozen? ⟨w.heap.size, i, none⟩ = false := fun ob i => frz (zr2 ob) i
    have HB9 := hide (fun ob => hb9.alloc hb9.size ob)
    clear hO hb2 hb9 zr zr2 zc
    go_wp2
    refine bodyPost_ret (v := .tuple #[rpV none 0 0 none 0 0 0 0 none 0 0 none 0 0, .slice none 0 0, .bool false]) (by simp [results, Try.f27, go_sem, z0, z1, z2, z3, z4, z5]) rfl ?_
    exact playRet_none (six_bel _ _ _ _ _ _ (HB9.out _) (Nat.le_refl _))
end Go.Proofs.Ythmekhhfihjclbd.L9

namespace Go.Proofs.Ythmekhhfihjclbd.L1
open Go.RowKit
set_option linter.unusedVariables false

set_option maxRecDepth 100000 in
set_option maxHeartbeats 1000000 in
theorem eqIntS_same (a b : Option Addr) (xs : List Int) (n c1 c2 : Nat) (w : World) (hn : xs.length = n) (ha : Sl w a xs) (hb : Sl w b xs) (hn2 : n ≤ 1048576) :
    Calls Try.prog 12 #[.slice a n c1, .slice b n c2] w fun e w' => e = .returned (.bool true) ∧ Below w.heap.size w w' := by
  have HA := hide ha
  have HB := hide hb
  have HN := hide hn
  clear ha hb hn
  go_enter Try.func12, Try.ntmps12
  go_wp2
  go_loopw [5] (fun i wr => ∃ k : Nat, k ≤ n ∧ i = .int .i64 k ∧ Below w.heap.size w wr) (fun i _ => n - (intOf i).toNat)
  case atStart => exact ⟨0, Nat.zero_le _, rfl, Below.refl _ _⟩
  case round =>
    obtain ⟨k, hk, rfl, hbel⟩ := hrel
    by_cases hlt : k < n
    · obtain ⟨b1, o1, rfl, h1⟩ := HA.out k (by rw [HN.out]; exact hlt)
      obtain ⟨b2, o2, rfl, h2⟩ := HB.out k (by rw [HN.out]; exact hlt)
      have g1 : wr.cell? ⟨b1, o1 + k, none⟩ = some (.int .i64 (xs.getD k 0)) := by
        rw [hbel.cell (p := ⟨b1, o1 + k, none⟩) (blk_lt h1)]
        exact h1
      have g2 : wr.cell? ⟨b2, o2 + k, none⟩ = some (.int .i64 (xs.getD k 0)) := by
        rw [hbel.cell (p := ⟨b2, o2 + k, none⟩) (blk_lt h2)]
        exact h2
      obtain ⟨x, hx⟩ : ∃ x, x = xs.getD k 0 := ⟨_, rfl⟩
      rw [← hx] at g1 g2
      have hltI : (k : Int) < (n : Int) := by omega
      clear h1 h2 hx
      go_wp2
      go_quiet (fail)
      go_wp2
      go_roundw
      case rel => exact ⟨k + 1, by omega, by go_num, below_drewN hbel _⟩
      case measure => simp [intOf]; omega
    · have hltI : ¬ (k : Int) < (n : Int) := by omega
      go_wp2
      go_ret
      exact ⟨rfl, hbel⟩
end Go.Proofs.Ythmekhhfihjclbd.L1

namespace Go.Proofs.Ythmekhhfihjclbd.L1

theorem gvf_some : ∀ (f : Nat) (pre t l : List Int), gvf f pre t = some l → ∃ m, 1 ≤ m ∧ m ≤ t.length ∧ l = pre ++ t.take m
  | 0, _, _, _, h => by simp [gvf] at h
  | _ + 1, _, [], _, h => by simp [gvf] at h
  | f + 1, pre, x :: r, l, h => by
    simp only [gvf] at h
    split at h
    · obtain ⟨m, h1, h2, h3⟩ := gvf_some f (pre ++ [x]) r l h
      refine ⟨m + 1, by omega, by simp; omega, ?_⟩
      rw [h3]
      simp
    · split at h
      · simp only [Option.some.injEq] at h
        exact ⟨1, by omega, by simp, by rw [← h]; simp⟩
      · simp at h
theorem gv_some {t l : List Int} (h : gv t = some l) : 1 ≤ l.length ∧ l.length ≤ t.length := by
  obtain ⟨m, h1, h2, h3⟩ := gvf_some 6 [] t l h
  rw [h3]
  simp
  omega

/-- All numbers of a text. -/
def ga : Nat → List Int → Option (List Int)
  | _, [] => some []
  | 0, _ :: _ => none
  | f + 1, x :: r => match gv (x :: r) with
    | none => none
    | some l => (ga f ((x :: r).drop l.length)).map fun o => zag (val l) :: o

theorem ga_fuel : ∀ (n : Nat) (t : List Int) (f g : Nat), t.length ≤ n → t.length ≤ f → t.length ≤ g → ga f t = ga g t
  | _, [], f, g, _, _, _ => by cases f <;> cases g <;> rfl
  | 0, x :: r, _, _, h, _, _ => by simp at h
  | n + 1, x :: r, f, g, h, hf, hg => by
    obtain ⟨f, rfl⟩ : ∃ j, f = j + 1 := ⟨f - 1, by simp at hf; omega⟩
    obtain ⟨g, rfl⟩ : ∃ j, g = j + 1 := ⟨g - 1, by simp at hg; omega⟩
    simp only [ga]
    cases hv : gv (x :: r) with
    | none => rfl
    | some l =>
      have hl := gv_some hv
      have e := ga_fuel n ((x :: r).drop l.length) f g (by simp at *; omega) (by simp at *; omega) (by simp at *; omega)
      simp only [e]

def gall (t : List Int) : Option (List Int) := ga t.length t
theorem gall_nil : gall [] = some [] := rfl
theorem gall_none {t : List Int} (h0 : 0 < t.length) (h : gv t = none) : gall t = none := by
  cases t with
  | nil => simp at h0
  | cons x r => simp only [gall, List.length_cons, ga, h]
theorem gall_some {t l : List Int} (h0 : 0 < t.length) (h : gv t = some l) : gall t = (gall (t.drop l.length)).map fun o => zag (val l) :: o := by
  cases t with
  | nil => simp at h0
  | cons x r =>
    have hl := gv_some h
    simp only [gall, List.length_cons, ga, h]
    rw [ga_fuel (r.length + 1) ((x :: r).drop l.length) r.length ((x :: r).drop l.length).length (by simp) (by simp at *; omega) (by simp)]

/-- What is read so far, and what is still to be read. -/
theorem gall_step {A : Option (List Int)} {xs t l : List Int} (h0 : 0 < t.length) (h : gv t = some l) (hA : A = (gall t).map fun o => xs ++ o) :
    A = (gall (t.drop l.length)).map fun o => (xs ++ [zag (val l)]) ++ o := by
  rw [hA, gall_some h0 h]
  cases gall (t.drop l.length) <;> simp
theorem gall_stop {A : Option (List Int)} {xs t : List Int} (h0 : 0 < t.length) (h : gv t = none) (hA : A = (gall t).map fun o => xs ++ o) : A = none := by
  rw [hA, gall_none h0 h]
  rfl
theorem gall_over {A : Option (List Int)} {xs t : List Int} (hA : A = (gall t).map fun o => xs ++ o) {ys : List Int} (h : A = some ys) : xs.length ≤ ys.length := by
  rw [hA] at h
  cases hg : gall t with
  | none => rw [hg] at h; simp at h
  | some o =>
    rw [hg] at h
    simp at h
    rw [← h]
    simp

/-- The numbers of a text that are at most 60. -/
def gaRes (t : List Int) : Option (List Int) := if t.length ≤ 600 then (gall t).bind (fun xs => if xs.length ≤ 60 then some xs else none) else none
def marks (k : Int) (n : Nat) : List Int := (List.range n).map fun i : Nat => k + (i : Int)
theorem marks_len (k : Int) (n : Nat) : (marks k n).length = n := by simp [marks]
theorem marks_get (k : Int) (n j : Nat) (h : j < n) : (marks k n).getD j 0 = k + (j : Int) := by
  simp [marks, List.getD, h]
end Go.Proofs.Ythmekhhfihjclbd.L1
