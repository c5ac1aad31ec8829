/-
  Contract: impl.goodReplStep.
  Contract: impl.lastEpoch.
  Starts that a call hands back; small facts on new memory.
  Contract: (*impl.Repl).write.
  Contract: impl.endOfStart.
  Contract: impl.startsOf tells the starts of entries, in new memory.
  Contract: impl.endOfEpoch tells how many entries have an Epoch or a lesser one.
  Contract: impl.findPart.
-/
import Derived.Test.YthmekhhfihjclbdBundle4
import Derived.Test.YthmekhhfihjclbdBundle2
import Derived.Test.YthmekhhfihjclbdBundle1
import Derived.Maps.AppendAt
import Derived.Deep.RegionHeld3
import Derived.Deep.AppendLies
import Derived.Deep.DeepCutAuto
import Derived.WalkMore
namespace Go.Proofs.Ythmekhhfihjclbd.L9
open Go.RowKit L1 L7
set_option linter.unusedVariables false

def GoodSt (kd nd : Int) (t : ByteArray) (n : Nat) : Prop := (kd = 1 ∧ nd = 0 ∧ t.size ≤ 20) ∨ ((2 ≤ kd ∧ kd ≤ 7) ∧ (0 ≤ nd ∧ nd < (n : Int)) ∧ t.size = 0)
theorem bool_is {b : Bool} {p : Prop} (h : b = true ↔ p) (hp : p) : b = true := h.2 hp
theorem bool_not {b : Bool} {p : Prop} (h : b = true ↔ p) (hp : ¬ p) : b = false := by
  cases b with
  | false => rfl
  | true => exact absurd (h.1 rfl) hp
theorem empty_of {t : ByteArray} (h : t.size = 0) : t = ByteArray.empty := by
  apply ByteArray.ext
  apply Array.eq_empty_of_size_eq_zero
  exact h
theorem text_neS {a b : ByteArray} (h : a ≠ b) : (a.toList == b.toList) = false := by
  have : ¬ a.toList = b.toList := fun e => h (by
    apply ByteArray.ext
    apply Array.toList_inj.1
    rw [← ByteArray.toList_eq, ← ByteArray.toList_eq, e])
  simpa using this
set_option maxRecDepth 100000 in
set_option maxHeartbeats 1000000 in
theorem goodStep_any (kd nd : Int) (t : ByteArray) (n : Nat) (w : World) (ht : t.size ≤ 9223372036854775807) (bb : Bool) (hbb : bb = true ↔ GoodSt kd nd t n) :
    Calls Try.prog 81 #[.agg #[.int .i64 kd, .int .i64 nd, .string t], .int .i64 (n : Int)] w fun e w' => e = .returned (.bool bb) ∧ Below w.heap.size w w' := by
  have BX : ∀ o, Below w.heap.size w (w.alloc o) := fun o => (Below.refl _ _).alloc (Nat.le_refl _) o
  by_cases k1 : kd = 1
  · subst k1
    by_cases hn : nd = 0
    · subst hn
      by_cases hs : t.size ≤ 20
      · have e := bool_is hbb (.inl ⟨rfl, rfl, hs⟩)
        subst e
        have hsI : (t.size : Int) ≤ 20 := by omega
        clear hbb
        go_enter Try.func81, Try.ntmps81
        go_wp2
        go_ret
        exact ⟨by simp, BX _⟩
      · have e := bool_not hbb (fun h => by rcases h with h | h <;> omega)
        subst e
        have hsI : ¬ (t.size : Int) ≤ 20 := by omega
        clear hbb
        go_enter Try.func81, Try.ntmps81
        go_wp2
        go_ret
        exact ⟨by simp, BX _⟩
    · have e := bool_not hbb (fun h => by rcases h with h | h <;> omega)
      subst e
      have hnI : (nd == 0) = false := by simp [hn]
      clear hbb
      go_enter Try.func81, Try.ntmps81
      go_wp2
      go_ret
      exact ⟨rfl, BX _⟩
  · have hk1 : (kd == 1) = false := by simp [k1]
    by_cases h2 : 1 < kd
    · by_cases h7 : kd ≤ 7
      · obtain ⟨bi, hbi⟩ : ∃ bi : Bool, bi = true ↔ 0 ≤ nd ∧ nd < (n : Int) := ⟨decide (0 ≤ nd ∧ nd < (n : Int)), by simp⟩
        have CI := hide (fun wx => L8.isBelow_any nd (n : Int) wx bi hbi)
        have HBI := hide hbi
        have HBB := hide hbb
        clear hbb hbi
        go_enter Try.func81, Try.ntmps81
        go_wp2_with fail
        refine (CI.out _).mono ?_
        rintro e w1 ⟨rfl, rfl⟩
        cases bi with
        | false =>
          have e := bool_not HBB.out (fun h => by
            rcases h with h | h
            · omega
            · have := HBI.out.2 h.2.1; cases this)
          subst e
          go_wp2
          go_ret
          exact ⟨rfl, BX _⟩
        | true =>
          by_cases hs : t.size = 0
          · have e := bool_is HBB.out (.inr ⟨⟨by omega, h7⟩, HBI.out.1 (by first | rfl | trivial), hs⟩)
            subst e
            obtain rfl := empty_of hs
            go_wp2
            go_ret
            exact ⟨rfl, BX _⟩
          · have e := bool_not HBB.out (fun h => by rcases h with h | h <;> omega)
            subst e
            have hne : t ≠ ByteArray.empty := fun e => hs (by rw [e]; rfl)
            have hne2 := text_neS hne
            go_wp2
            go_ret
            exact ⟨by first | rfl | simpa using hne2, BX _⟩
      · have e := bool_not hbb (fun h => by rcases h with h | h <;> omega)
        subst e
        have h7d : decide (kd ≤ 7) = false := by simp; omega
        clear hbb
        go_enter Try.func81, Try.ntmps81
        go_wp2
        go_ret
        exact ⟨rfl, BX _⟩
    · have e := bool_not hbb (fun h => by rcases h with h | h <;> omega)
      subst e
      have h2d : decide (1 < kd) = false := by simp; omega
      clear hbb
      go_enter Try.func81, Try.ntmps81
      go_wp2
      go_ret
      exact ⟨rfl, BX _⟩
end Go.Proofs.Ythmekhhfihjclbd.L9

namespace Go.Proofs.Ythmekhhfihjclbd.L7
open Go.RowKit L1
set_option linter.unusedVariables false

set_option maxRecDepth 100000 in
set_option maxHeartbeats 2000000 in
theorem lastEpoch_any (a : Option Addr) (l : List En) (n cap : Nat) (w : World) (hn : l.length = n) (hs : SlE w a l) (hn2 : n ≤ 1048576) (x : Int) (hx : lastE l = x) :
    Calls Try.prog 99 #[.slice a n cap] w fun e w' => e = .returned (.int .i64 x) ∧ w = w' := by
  cases n with
  | zero =>
    have e : x = 0 := by rw [← hx]; unfold lastE; rw [if_pos hn]
    subst e
    clear hx hs hn
    go_enter Try.func99, Try.ntmps99
    go_wp2
    go_ret
    exact ⟨rfl, rfl⟩
  | succ j =>
    obtain ⟨b, off, rfl, hc, _⟩ := hs j (by omega)
    have e : x = (l.getD j eE).1 := by rw [← hx]; unfold lastE; rw [if_neg (by omega), hn, Nat.add_sub_cancel]
    rw [← e] at hc
    have hjI : (j : Int) < (j : Int) + 1 := by omega
    have hj0 : (0 : Int) ≤ (j : Int) := by omega
    have hwj : IntKind.i64.wrap (j : Int) = (j : Int) := by
      simp only [IntKind.wrap, IntKind.bits, IntKind.signed]
      simp
      omega
    have hjn : ((j : Int) + 1 == 0) = false := by simp; omega
    clear hx hs hn e
    go_enter Try.func99, Try.ntmps99
    go_wp2
    go_ret
    exact ⟨rfl, rfl⟩
end Go.Proofs.Ythmekhhfihjclbd.L7

namespace Go.Proofs.Ythmekhhfihjclbd.L7
open Go.RowKit L1
set_option linter.unusedVariables false

/-- Starts that a call hands back, in new memory. -/
def RetS (w : World) (r : List (Int × Int)) (e : Ending) (w' : World) : Prop :=
  ∃ v, e = .returned v ∧ w'.ownsRow w.heap.size 117 2 v r.length (flatS r) ∧ Below w.heap.size w w'
theorem own_drewN {w : World} {base n c : Nat} {t : TypeId} {v : Value} {ys : List Value} (h : w.ownsRow base t c v n ys) (q : Nat) : (w.drewN q).ownsRow base t c v n ys := h
theorem cell_two_newT (w : World) (p q : Value) (t : TypeId) : ∀ j u, [p, q][j]? = some u → (w.alloc (.cells #[p, q] t)).cell? ((⟨w.heap.size, 0, none⟩ : Addr).add j) = some u := by
  intro j u h
  rw [addr_add]
  match j, h with
  | 0, h => simp at h; subst h; simp
  | 1, h => simp at h; subst h; simp
  | j + 2, h => simp at h
theorem cell_two_new2 (w : World) (o : Obj) (p q : Value) (t : TypeId) : ∀ j u, [p, q][j]? = some u → ((w.alloc o).alloc (.cells #[p, q] t)).cell? ((⟨w.heap.size + 1, 0, none⟩ : Addr).add j) = some u := by
  intro j u h
  have := cell_two_newT (w.alloc o) p q t j u h
  simpa using this
theorem cell_two_newD (w : World) (n : Nat) (o : Obj) (p q : Value) (t : TypeId) : ∀ j u, [p, q][j]? = some u → (((w.alloc o).drewN n).alloc (.cells #[p, q] t)).cell? ((⟨w.heap.size + 1, 0, none⟩ : Addr).add j) = some u := by
  intro j u h
  have := cell_two_newT ((w.alloc o).drewN n) p q t j u h
  simpa using this
end Go.Proofs.Ythmekhhfihjclbd.L7

namespace Go.Proofs.Ythmekhhfihjclbd.L9
open Go.RowKit L1 L7
set_option linter.unusedVariables false

theorem quiet_plus {f : FuncId} {args : Array Value} {w : World} {k n : Nat} {v : Value} (h : Calls Try.prog f args (w.drewN (k + n)) fun e w' => e = .returned v ∧ ∃ m, w' = (w.drewN (k + n)).drewN m) : Calls Try.prog f args (w.drewN (k + n)) fun e w'' => e = .returned v ∧ ∃ m, w'' = w.drewN (k + m) :=
  h.mono fun _ _ ⟨he, m, hm⟩ => ⟨he, n + m, by rw [hm, World.drewN_drewN, Nat.add_assoc]⟩
theorem quiet_same {f : FuncId} {args : Array Value} {w : World} {k n : Nat} {v : Value} (h : Calls Try.prog f args (w.drewN (k + n)) fun e w' => e = .returned v ∧ w.drewN (k + n) = w') : Calls Try.prog f args (w.drewN (k + n)) fun e w'' => e = .returned v ∧ ∃ m, w'' = w.drewN (k + m) :=
  h.mono fun _ _ ⟨he, hm⟩ => ⟨he, n, hm.symm⟩
set_option maxRecDepth 100000 in
set_option maxHeartbeats 2000000 in
theorem write_any (S : Nat → Prop) (b : Nat) (r : Rm) (w : World) (hI : Inv r) (hR : RB w S b r) (hS : ∀ q, S q → q < w.heap.size) (kd nd : Int) (t : ByteArray) (h0 : 0 ≤ nd) (h1 : nd < (r.G.length : Int)) (o : Option Rm) (ho : o = if r.down r.ld = false ∧ r.lead.length ≠ 40 ∧ lastE r.lead ≤ r.ep then some { r with G := r.G.set r.ld.toNat (r.lead ++ [(r.ep, t)]) } else none) :
    Calls Try.prog 82 #[.pointer (some ⟨b, 0, none⟩), .agg #[.int .i64 kd, .int .i64 nd, .string t]] w fun e w' => e = .returned (.bool o.isSome) ∧ Done S w b (o.getD r) w' := by
  obtain ⟨V, gb, cg, db, cd, ay, cy, ac, cc, hb, hW, hSb⟩ := hR.open hI
  have hnode := hI.node
  have hdn := hI.good.down
  have hn1 := hI.good.logs.1
  obtain ⟨i, rfl⟩ : ∃ i : Nat, nd = (i : Int) := ⟨nd.toNat, by omega⟩
  obtain ⟨j, hj⟩ : ∃ j : Nat, r.ld = (j : Int) := ⟨r.ld.toNat, by omega⟩
  obtain ⟨n, hn⟩ : ∃ n, n = r.G.length := ⟨_, rfl⟩
  obtain ⟨ny, hny⟩ : ∃ ny, ny = r.sy.length := ⟨_, rfl⟩
  obtain ⟨nc, hnc⟩ : ∃ nc, nc = r.ce.length := ⟨_, rfl⟩
  obtain ⟨E, hE⟩ : ∃ E, E = r.ep := ⟨_, rfl⟩
  have hin : i < n := by omega
  have hjn : j < n := by omega
  have ci := hW.downAt i (by omega)
  have cj := hW.downAt j (by omega)
  obtain ⟨k0, k1, k2, k3, k4, k5⟩ := blk6 hb
  rw [hdn, ← hn] at k1
  rw [← hn] at k0
  rw [hj] at k2
  rw [← hE] at k3
  rw [← hny] at k4
  rw [← hnc] at k5
  have hzz := rpz_of hI
  have BX := (Below.refl w.heap.size w).alloc (Nat.le_refl _) (Obj.cells #[.int .i64 kd, .int .i64 (i : Int), .string t] 50)
  have SX := blk_new9 w (Obj.cells #[.int .i64 kd, .int .i64 (i : Int), .string t] 50)
  obtain ⟨w1, hw1⟩ : ∃ w1, w1 = w.alloc (Obj.cells #[.int .i64 kd, .int .i64 (i : Int), .string t] 50) := ⟨_, rfl⟩
  have HW1 := hide hw1
  rw [← hw1] at BX SX
  clear hw1
  have s0 : w1.cell? ⟨w.heap.size, 0, none⟩ = some (.int .i64 kd) := by simp [World.cell?, SX]
  have s1 : w1.cell? ⟨w.heap.size, 1, none⟩ = some (.int .i64 (i : Int)) := by simp [World.cell?, SX]
  have s2 : w1.cell? ⟨w.heap.size, 2, none⟩ = some (.string t) := by simp [World.cell?, SX]
  have g0 := (BX.cell (blk_lt9 k0)).trans k0
  have g1 := (BX.cell (blk_lt9 k1)).trans k1
  have g2 := (BX.cell (blk_lt9 k2)).trans k2
  have g3 := (BX.cell (blk_lt9 k3)).trans k3
  have g4 := (BX.cell (blk_lt9 k4)).trans k4
  have g5 := (BX.cell (blk_lt9 k5)).trans k5
  have di := (BX.cell (blk_lt9 ci)).trans ci
  have dj := (BX.cell (blk_lt9 cj)).trans cj
  have hWx := hW.below BX
  have hbx : w1.heap[b]? = _ := (BX.block b (Array.getElem?_eq_some_iff.1 hb).1).trans hb
  have fb := fun c => frz hbx c
  have fg : ∀ c, w1.frozen? ⟨gb, c, none⟩ = false := fun c => own_frz hWx.g c
  have fd : ∀ c, w1.frozen? ⟨db, c, none⟩ = false := fun c => own_frz hWx.d c
  have hiI : (i : Int) < (n : Int) := by omega
  have hi0 : (0 : Int) ≤ (i : Int) := by omega
  have hjI : (j : Int) < (n : Int) := by omega
  have hj0 : (0 : Int) ≤ (j : Int) := by omega
  have HOF := hide ho
  have HRF := hide hR
  have HWF := hide hW
  have HBF := hide hb
  have BXF := hide BX
  have hy6 := hzz.y2
  rw [← hny] at hy6
  have hyr := rn_rise hI.good.rise
  obtain ⟨x, hx⟩ : ∃ x, x = r.dn.getD i false := ⟨_, rfl⟩
  have HX : Hid (r.down (i : Int) = x) := hide hx.symm
  rw [← hx] at di
  obtain ⟨y, hy⟩ : ∃ y, y = r.dn.getD j false := ⟨_, rfl⟩
  have HY : Hid (r.down r.ld = y) := hide (by rw [hj]; exact hy.symm)
  rw [← hy] at dj
  obtain ⟨bi, hbi⟩ : ∃ bi : Bool, bi = true ↔ (i : Int) ∈ r.sy := ⟨decide ((i : Int) ∈ r.sy), by simp⟩
  have HBI := hide hbi
  have HLD := hide hj
  have HEP := hide hE
  have he0 : 1 ≤ E := by rw [hE]; exact hI.good.e0
  have he1 : E ≤ 1000 := by rw [hE]; exact hI.good.e1
  have CI := hide (fun m => isIn_any b ay ny cy r.sy (i : Int) (w1.drewN m) g4 hny.symm (hWx.rps.1.y.below (below_drewN (Below.refl _ _) m)) hy6 bi hbi)
  have CL := hide (fun m => leaderDown_any b db n cd j y (w1.drewN m) g1 g2 hjn dj)
  obtain ⟨aJ, kJ, eJ, lJ, sJ'⟩ := hWx.logAt j (by omega)
  have gJ' := hI.good.logs.2 j (by omega)
  have oJ := hWx.l j (by omega)
  rw [eJ] at oJ
  have capJ := own_capE oJ
  have cnJ : aJ = none → kJ = 0 := fun e => by
    subst e
    rcases oJ.2 with ⟨hv, h0⟩ | ⟨g, cap, cur, hv, _⟩
    · obtain ⟨_, _, e3⟩ := Value.slice.inj hv
      exact e3
    · cases hv
  obtain ⟨q, hq⟩ : ∃ p, p = (r.G.getD j []).length := ⟨_, rfl⟩
  rw [← hq] at lJ capJ
  have gJ1 := gJ'.1
  rw [← hq] at gJ1

  obtain ⟨L, hL⟩ : ∃ L, lastE (r.G.getD j []) = L := ⟨_, rfl⟩
  have CP := hide (fun wx (hb : Below w1.heap.size w1 wx) => lastEpoch_any aJ (r.G.getD j []) q kJ wx hq.symm (sJ'.below hb) (by omega) L hL)
  have CLW := hide (fun wx (hb : Below w1.heap.size w1 wx) => leaderDown_any b db n cd j y wx ((hb.cell (blk_lt9 g1)).trans g1) ((hb.cell (blk_lt9 g2)).trans g2) hjn ((hb.cell (blk_lt9 dj)).trans dj))
  clear CL CI
  have HLL := hide hL
  have HQ := hide hq
  have HOJ := hide oJ
  have HEJ := hide eJ
  have hbg : b ≠ gb := fun e => by subst e; exact box_ne hbx hWx.g
  have hsg : w.heap.size ≠ gb := fun e => by have := (Array.getElem?_eq_some_iff.1 (row_blk hW.g).choose_spec).1; omega
  have HN := hide hn
  obtain ⟨i0, hi, hz0, hz1, hz2⟩ := info_parts info_ent
  have HB1 := hide hbx
  have HWX := hide hWx
  clear hx hy hbi hj hE hny hnc hn eJ sJ' gJ' oJ capJ cnJ hq hL
  clear ho hR hW hb hWx hbx BX hI hzz hdn hn1 hnode cj ci k0 k1 k2 k3 k4 k5 SX hy6 hyr
  go_enter Try.func82, Try.ntmps82
  go_upto_region 1 with fail
  rw [← HW1.out]
  go_quiet (fail)
  go_upto_region 2 with fail
  cases y with
  | true =>
    go_quiet (first | (go_at_call 98; exact quiet_plus (CLW.out _ (below_drewN (Below.refl _ _) _))) | (go_at_call 99; exact quiet_same (CP.out _ (below_drewN (Below.refl _ _) _))))
    go_wp2
    go_ret
    have hoo := HOF.out
    rw [if_neg (fun h => by have h2 := h.1; rw [HY.out] at h2; cases h2)] at hoo
    exact ⟨by rw [hoo]; rfl, by rw [hoo]; exact HRF.out.same (below_drewN (below_drewN BXF.out _) _)⟩

  | false =>
    by_cases hq40 : q = 40
    · have hq41 : ((q : Int) == 40) = true := by simp; omega
      have hneg : ¬ (r.down r.ld = false ∧ r.lead.length ≠ 40 ∧ lastE r.lead ≤ r.ep) := fun h => h.2.1 (by show (r.G.getD r.ld.toNat []).length = 40; rw [HLD.out, Int.toNat_natCast, ← HQ.out]; exact hq40)
      have HNEG := hide hneg
      clear hneg hq40
      go_quiet (first | (go_at_call 98; exact quiet_plus (CLW.out _ (below_drewN (Below.refl _ _) _))) | (go_at_call 99; exact quiet_same (CP.out _ (below_drewN (Below.refl _ _) _))))
      go_wp2
      go_ret
      have hoo := HOF.out
      rw [if_neg (HNEG.out)] at hoo
      exact ⟨by rw [hoo]; rfl, by rw [hoo]; exact HRF.out.same (below_drewN (below_drewN BXF.out _) _)⟩

    · have hq41 : ((q : Int) == 40) = false := by simp; omega
      by_cases hLE : E < L
      · have hLE2 : decide (E < L) = true := by simp [hLE]
        have hneg : ¬ (r.down r.ld = false ∧ r.lead.length ≠ 40 ∧ lastE r.lead ≤ r.ep) := fun h => by
          have h2 : lastE (r.G.getD r.ld.toNat []) ≤ r.ep := h.2.2
          rw [HLD.out, Int.toNat_natCast, HLL.out, ← HEP.out] at h2
          omega
        have HNEG := hide hneg
        clear hneg
        go_quiet (first | (go_at_call 98; exact quiet_plus (CLW.out _ (below_drewN (Below.refl _ _) _))) | (go_at_call 99; exact quiet_same (CP.out _ (below_drewN (Below.refl _ _) _))))
        go_wp2
        go_ret
        have hoo := HOF.out
        rw [if_neg (HNEG.out)] at hoo
        exact ⟨by rw [hoo]; rfl, by rw [hoo]; exact HRF.out.same (below_drewN (below_drewN BXF.out _) _)⟩

      · have hLE2 : decide (E < L) = false := by simp [hLE]
        have hpos : r.down r.ld = false ∧ r.lead.length ≠ 40 ∧ lastE r.lead ≤ r.ep := ⟨HY.out, by show (r.G.getD r.ld.toNat []).length ≠ 40; rw [HLD.out, Int.toNat_natCast, ← HQ.out]; exact hq40, by show lastE (r.G.getD r.ld.toNat []) ≤ r.ep; rw [HLD.out, Int.toNat_natCast, HLL.out, ← HEP.out]; omega⟩
        have hoo := HOF.out
        rw [if_pos hpos] at hoo
        have HOO := hide hoo
        have HOX : Hid (∀ m, ((w1.drewN m).alloc (.cells #[.int .i64 E, .string t] 93)).ownsRow 0 93 2 (.slice aJ q kJ) q (flatE (r.G.getD j []))) := hide (fun m => by
          have h1 := HOJ.out
          rw [← HQ.out] at h1
          exact own_at h1 fun z hz => ((Below.refl _ (w1.drewN m)).alloc (Nat.le_refl _) _).block z (own_lt9 h1 z hz))
        have PP : Hid (∀ m g4 c4 w4, w4.ownsRow 0 93 2 (.slice (some ⟨g4, 0, none⟩) (q + 1) c4) (q + 1) (flatE (r.G.getD j []) ++ [.int .i64 E, .string t]) → ((w1.drewN m).alloc (.cells #[.int .i64 E, .string t] 93)).grownBy w4 (Value.slice aJ q kJ).ownBlock → ((Value.slice aJ q kJ).ownBlock = some g4 ∨ g4 = ((w1.drewN m).alloc (.cells #[.int .i64 E, .string t] 93)).heap.size) →
            w4.cell? ⟨b, 0, none⟩ = some (.slice (some ⟨gb, 0, none⟩) n cg) ∧ w4.cell? ⟨b, 2, none⟩ = some (.int .i64 (j : Int)) ∧ w4.cell? ⟨b, 3, none⟩ = some (.int .i64 E) ∧ w4.cell? ⟨w.heap.size, 2, none⟩ = some (.string t) ∧ w4.cell? ⟨gb, j, none⟩ = some (.slice aJ q kJ) ∧ (∀ c, w4.frozen? ⟨gb, c, none⟩ = false) ∧ Done S w b { r with G := r.G.set j (r.G.getD j [] ++ [(E, t)]) } (w4.setCell ⟨gb, j, none⟩ (.slice (some ⟨g4, 0, none⟩) (q + 1) c4))) := hide (fun m g4 c4 w4 h4 hg4 hn4 => by
          have hA : Below w1.heap.size w1 ((w1.drewN m).alloc (.cells #[.int .i64 E, .string t] 93)) := (below_drewN (Below.refl w1.heap.size w1) m).alloc (Nat.le_refl _) _
          have hWA := HWX.out.below hA
          have hbA := (hA.block b (Array.getElem?_eq_some_iff.1 HB1.out).1).trans HB1.out
          have hjn' : j < r.G.length := by have := HN.out; omega
          have own := HOJ.out
          rw [← HQ.out] at own
          have oA : ((w1.drewN m).alloc (.cells #[.int .i64 E, .string t] 93)).ownsRow 0 93 2 (.slice aJ q kJ) q (flatE (r.G.getD j [])) := own_at own fun z hz => hA.block z (own_lt9 own z hz)
          have keep : ∀ P x, w1.cell? P = some x → (Value.slice aJ q kJ).ownBlock ≠ some P.block → w4.cell? P = some x := fun P x hx hne => by
            have hPA := (hA.cell (blk_lt9 hx)).trans hx
            exact (World.cell?_of_block (hg4.block P.block (blk_lt9 hPA) (fun e => hne e.symm))).trans hPA
          have nb : (Value.slice aJ q kJ).ownBlock ≠ some b := fun e => by
            rcases own.2 with ⟨hv, _⟩ | ⟨g, cap, cu, hv, _, hh, _⟩
            · rw [hv] at e; cases e
            · rw [hv] at e
              cases e
              rw [HB1.out] at hh
              cases hh
          have ng : (Value.slice aJ q kJ).ownBlock ≠ some gb := fun e => L8.own_two own HWX.out.g t_ge.symm gb e rfl
          have ns : (Value.slice aJ q kJ).ownBlock ≠ some w.heap.size := fun e => by
            have h9 := HWF.out.l j hjn'
            rw [HEJ.out, ← HQ.out] at h9
            have := own_lt9 h9 _ e
            omega
          have hlen : (r.G.getD j [] ++ [(E, t)]).length = q + 1 := by rw [List.length_append, ← HQ.out]; rfl
          have hbw := BXF.out.trans (hA.mono BXF.out.size)
          have hg5 : ((w1.drewN m).alloc (.cells #[.int .i64 E, .string t] 93)).grownBy w4 (V.getD j nilV).ownBlock := by rw [HEJ.out, ← HQ.out]; exact hg4
          have hD := done_log HWF.out HBF.out hSb hS hbw gb cg rfl j hjn' (.slice (some ⟨g4, 0, none⟩) (q + 1) c4) (r.G.getD j [] ++ [(E, t)]) (by rw [hlen, flatE_append]; exact h4) hg5 (fun z hz => by
            rw [HEJ.out, ← HQ.out]
            cases hz
            rcases hn4 with e | e
            · exact .inl e
            · exact .inr (Nat.le_of_eq e.symm))
          have f4 : ∀ c, w4.frozen? ⟨gb, c, none⟩ = false := fun c => by
            rcases hWA.g.2 with ⟨hv, _⟩ | ⟨g, cap, cu, hv, _, hh, _⟩
            · simp at hv
            · obtain ⟨e, _, _⟩ := Value.slice.inj hv
              cases e
              exact frz ((hg4.block gb (Array.getElem?_eq_some_iff.1 hh).1 (fun e => ng e.symm)).trans hh) c
          exact ⟨keep _ _ g0 nb, keep _ _ g2 nb, keep _ _ g3 nb, keep _ _ s2 ns, keep _ _ lJ ng, f4, hD⟩)
        clear hoo hpos
        go_quiet (first | (go_at_call 98; exact quiet_plus (CLW.out _ (below_drewN (Below.refl _ _) _))) | (go_at_call 99; exact quiet_same (CP.out _ (below_drewN (Below.refl _ _) _))))
        go_upto_region 4 with fail
        refine wp_region_held_drew (S := fun wx => wx.cell? ⟨b, 0, none⟩ = some (.slice (some ⟨gb, 0, none⟩) n cg) ∧ wx.cell? ⟨b, 2, none⟩ = some (.int .i64 (j : Int)) ∧ wx.cell? ⟨b, 3, none⟩ = some (.int .i64 E) ∧ wx.cell? ⟨w.heap.size, 2, none⟩ = some (.string t)) (by kernel_rfl) ⟨g0, g2, g3, s2⟩ (fun hHeld => ?_)
        refine wpAnyH_take (i := 0) (v := ?v1) rfl (by kernel_rfl) (by kernel_rfl) (by kernel_rfl) (fun _ _ _ h => h) (Or.inl ⟨by rfl, ?y1⟩) (by assumption) ?r1
        case y1 => (intro w hSw; (try dsimp only at hSw); go_simp; try (with_reducible rfl))
        simp only [List.getElem_toArray, List.getElem_cons_zero, Act.put, List.setIfInBounds_toArray, List.set_cons_zero, List.set_cons_succ]
        refine wpAnyH_take (i := 1) (v := ?v2) rfl (by kernel_rfl) (by kernel_rfl) (by kernel_rfl) (fun _ _ _ h => h) (Or.inl ⟨by rfl, ?y2⟩) (by assumption) ?r2
        case y2 => (intro w hSw; (try dsimp only at hSw); go_simp; try (with_reducible rfl))
        simp only [List.getElem_toArray, List.getElem_cons_succ, List.getElem_cons_zero, Act.put, List.setIfInBounds_toArray, List.set_cons_zero, List.set_cons_succ]
        refine wpAnyH_take (i := 2) (v := ?v3) rfl (by kernel_rfl) (by kernel_rfl) (by kernel_rfl) (fun _ _ _ h => h) (Or.inl ⟨by rfl, ?y3⟩) (by assumption) ?r3
        case y3 => (intro w hSw; (try dsimp only at hSw); go_simp; try (with_reducible rfl))
        simp only [List.getElem_toArray, List.getElem_cons_succ, List.getElem_cons_zero, Act.put, List.setIfInBounds_toArray, List.set_cons_zero, List.set_cons_succ]
        refine wpAnyH_take (i := 3) (v := ?v4) rfl (by kernel_rfl) (by kernel_rfl) (by kernel_rfl) (fun _ _ _ h => h) (Or.inl ⟨by rfl, ?y4⟩) (by assumption) ?r4
        case y4 => (intro w hSw; (try dsimp only at hSw); go_simp; try (with_reducible rfl))
        simp only [List.getElem_toArray, List.getElem_cons_succ, List.getElem_cons_zero, Act.put, List.setIfInBounds_toArray, List.set_cons_zero, List.set_cons_succ]
        refine wpAnyH_take (i := 4) (v := ?v5) rfl (by kernel_rfl) (by kernel_rfl) (by kernel_rfl) (fun _ _ _ h => h) (Or.inl ⟨by rfl, ?y5⟩) (by assumption) ?r5
        case y5 => (intro w hSw; (try dsimp only at hSw); go_simp; try (with_reducible rfl))
        simp only [List.getElem_toArray, List.getElem_cons_succ, List.getElem_cons_zero, Act.put, List.setIfInBounds_toArray, List.set_cons_zero, List.set_cons_succ]
        refine wpAnyH_take (i := 5) (v := ?v6) rfl (by kernel_rfl) (by kernel_rfl) (by kernel_rfl) (fun _ _ _ h => h) (Or.inl ⟨by rfl, ?y6⟩) (by assumption) ?r6
        case y6 => (intro w hSw; (try dsimp only at hSw); go_simp; try (with_reducible rfl))
        simp only [List.getElem_toArray, List.getElem_cons_succ, List.getElem_cons_zero, Act.put, List.setIfInBounds_toArray, List.set_cons_zero, List.set_cons_succ]
        refine wpAnyH_take (i := 6) (v := ?v7) rfl (by kernel_rfl) (by kernel_rfl) (by kernel_rfl) (fun _ _ _ h => h) (Or.inl ⟨by rfl, ?y7⟩) (by assumption) ?r7
        case y7 => (intro w hSw; (try dsimp only at hSw); go_simp; try (with_reducible rfl))
        simp only [List.getElem_toArray, List.getElem_cons_succ, List.getElem_cons_zero, Act.put, List.setIfInBounds_toArray, List.set_cons_zero, List.set_cons_succ]
        refine wpAnyH_take (i := 7) (v := ?v8) rfl (by kernel_rfl) (by kernel_rfl) (by kernel_rfl) (fun _ _ _ h => h) (Or.inl ⟨by rfl, ?y8⟩) (by assumption) ?r8
        case y8 => (intro w hSw; (try dsimp only at hSw); go_simp; try (with_reducible rfl))
        simp only [List.getElem_toArray, List.getElem_cons_succ, List.getElem_cons_zero, Act.put, List.setIfInBounds_toArray, List.set_cons_zero, List.set_cons_succ]
        refine wpAnyH_take (i := 8) (v := ?v9) rfl (by kernel_rfl) (by kernel_rfl) (by kernel_rfl) (fun _ _ _ h => h) (Or.inl ⟨by rfl, ?y9⟩) (by assumption) ?r9
        case y9 => (intro w hSw; (try dsimp only at hSw); go_simp; try (with_reducible rfl))
        simp only [List.getElem_toArray, List.getElem_cons_succ, List.getElem_cons_zero, Act.put, List.setIfInBounds_toArray, List.set_cons_zero, List.set_cons_succ]
        refine wpAnyH_take (i := 9) (v := ?v10) rfl (by kernel_rfl) (by kernel_rfl) (by kernel_rfl) (fun _ _ _ h => h) (Or.inl ⟨by rfl, ?y10⟩) (by assumption) ?r10
        case y10 => (intro w hSw; (try dsimp only at hSw); go_simp; try (with_reducible rfl))
        simp only [List.getElem_toArray, List.getElem_cons_succ, List.getElem_cons_zero, Act.put, List.setIfInBounds_toArray, List.set_cons_zero, List.set_cons_succ]
        refine wpAnyH_take (i := 10) (v := ?v11) rfl (by kernel_rfl) (by kernel_rfl) (by kernel_rfl) (fun _ _ _ h => h) (Or.inl ⟨by rfl, ?y11⟩) (by assumption) ?r11
        case y11 => (intro w hSw; (try dsimp only at hSw); go_simp; try (with_reducible rfl))
        simp only [List.getElem_toArray, List.getElem_cons_succ, List.getElem_cons_zero, Act.put, List.setIfInBounds_toArray, List.set_cons_zero, List.set_cons_succ]
        refine wpAnyH_take (i := 11) (v := ?v12) rfl (by kernel_rfl) (by kernel_rfl) (by kernel_rfl) (fun _ _ _ h => h) (Or.inl ⟨by rfl, ?y12⟩) (by assumption) ?r12
        case y12 => (intro w hSw; (try dsimp only at hSw); go_simp; try (with_reducible rfl))
        simp only [List.getElem_toArray, List.getElem_cons_succ, List.getElem_cons_zero, Act.put, List.setIfInBounds_toArray, List.set_cons_zero, List.set_cons_succ]
        refine wpAnyH_take (i := 12) (v := ?v13) rfl (by kernel_rfl) (by kernel_rfl) (by kernel_rfl) (fun _ _ _ h => h) (Or.inl ⟨by rfl, ?y13⟩) (by assumption) ?r13
        case y13 => (intro w hSw; (try dsimp only at hSw); go_simp; try (with_reducible rfl))
        simp only [List.getElem_toArray, List.getElem_cons_succ, List.getElem_cons_zero, Act.put, List.setIfInBounds_toArray, List.set_cons_zero, List.set_cons_succ]
        refine wpAnyH_take (i := 13) (v := ?v14) rfl (by kernel_rfl) (by kernel_rfl) (by kernel_rfl) (fun _ _ _ h => h) (Or.inl ⟨by rfl, ?y14⟩) (by assumption) ?r14
        case y14 => (intro w hSw; (try dsimp only at hSw); go_simp; try (with_reducible rfl))
        simp only [List.getElem_toArray, List.getElem_cons_succ, List.getElem_cons_zero, Act.put, List.setIfInBounds_toArray, List.set_cons_zero, List.set_cons_succ]
        refine wpAnyH_take (i := 14) (v := ?v15) rfl (by kernel_rfl) (by kernel_rfl) (by kernel_rfl) (fun _ _ _ h => h) (Or.inl ⟨by rfl, ?y15⟩) (by assumption) ?r15
        case y15 => (intro w hSw; (try dsimp only at hSw); go_simp; try (with_reducible rfl))
        simp only [List.getElem_toArray, List.getElem_cons_succ, List.getElem_cons_zero, Act.put, List.setIfInBounds_toArray, List.set_cons_zero, List.set_cons_succ]
        refine wpAnyH_take (i := 15) (v := ?v16) rfl (by kernel_rfl) (by kernel_rfl) (by kernel_rfl) (fun _ _ _ h => h) (Or.inl ⟨by rfl, ?y16⟩) (by assumption) ?r16
        case y16 => (intro w hSw; (try dsimp only at hSw); go_simp; try (with_reducible rfl))
        simp only [List.getElem_toArray, List.getElem_cons_succ, List.getElem_cons_zero, Act.put, List.setIfInBounds_toArray, List.set_cons_zero, List.set_cons_succ]
        refine wpAnyH_ready (rs := [16]) (by kernel_rfl) (by simp) ?_
        refine AllReadyH.cons rfl (fun K hK => ?_) AllReadyH.nil
        simp only [List.getElem_toArray, List.getElem_cons_succ, List.getElem_cons_zero]
        go_simp
        refine hK.out _ _ ?_ (fun hHeld => ?_)
        · exact ⟨Go.Lib.cell?_alloc_some _ hHeld.1, Go.Lib.cell?_alloc_some _ hHeld.2.1, Go.Lib.cell?_alloc_some _ hHeld.2.2.1, Go.Lib.cell?_alloc_some _ hHeld.2.2.2⟩
        clear hK K
        try simp only [Act.put, List.setIfInBounds_toArray, List.set_cons_zero, List.set_cons_succ]
        refine wpAnyH_ready (rs := [17]) (by kernel_rfl) (by simp) ?_
        refine AllReadyH.cons rfl (fun K hK => ?_) AllReadyH.nil
        simp only [List.getElem_toArray, List.getElem_cons_succ, List.getElem_cons_zero]
        rw [if_pos (by rfl)]
        refine wp_append_lies _ (.tmp 40) (.tmp 48) 30 rfl 0 93 i0 (.agg #[.int .i64 0, .string ByteArray.empty]) 2 24 Try.underlying30 hi hz0 hz1 hz2 rfl (by decide) (.slice aJ q kJ) q (flatE (r.G.getD j [])) rfl (HOX.out _) ⟨_, 0, none⟩ 1 1 [.int .i64 E, .string t] rfl rfl (cell_two_newT _ _ _ _) (by intro u hu; simp at hu; rcases hu with rfl | rfl <;> rfl) (by decide) (by unfold maxLen; omega) (by omega) (Nat.zero_le _) _ rfl ?_
        intro g4 c4 w4 h4 hg4 hn4 _
        obtain ⟨x0, x2, x3, x5, xg, xf, pp⟩ := PP.out _ g4 c4 w4 h4 hg4 hn4
        have HPP := hide pp
        clear pp h4 hg4 hn4
        refine hK.out _ _ ?_ (fun hHeld => ?_)
        · exact ⟨x0, x2, x3, x5⟩
        clear hK K
        try simp only [Act.put, List.setIfInBounds_toArray, List.set_cons_zero, List.set_cons_succ]
        refine wpAnyH_take (i := 18) (v := ?v17) rfl (by kernel_rfl) (by kernel_rfl) (by kernel_rfl) (fun _ _ _ h => h) (Or.inl ⟨by rfl, ?y17⟩) (by assumption) ?r17
        case y17 => (intro w hSw; (try dsimp only at hSw); go_simp; try (with_reducible rfl))
        simp only [List.getElem_toArray, List.getElem_cons_succ, List.getElem_cons_zero, Act.put, List.setIfInBounds_toArray, List.set_cons_zero, List.set_cons_succ]
        refine wpAnyH_ready (rs := [19]) (by kernel_rfl) (by simp) ?_
        refine AllReadyH.cons rfl (fun K hK => ?_) AllReadyH.nil
        simp only [List.getElem_toArray, List.getElem_cons_succ, List.getElem_cons_zero]
        go_simp
        refine hK.out _ _ ?_ (fun hHeld => ?_)
        · exact ⟨(cell_set9 hbg).trans x0, (cell_set9 hbg).trans x2, (cell_set9 hbg).trans x3, (cell_set9 hsg).trans x5⟩
        clear hK K
        try simp only [Act.put, List.setIfInBounds_toArray, List.set_cons_zero, List.set_cons_succ]
        refine wpAnyH_done (by kernel_rfl) ?_ _

        clear hHeld
        go_wp2
        go_ret
        refine ⟨by rw [HOO.out]; rfl, ?_⟩
        rw [HOO.out]
        have e1 : r.G.set r.ld.toNat (r.G.getD r.ld.toNat [] ++ [(r.ep, t)]) = r.G.set j (r.G.getD j [] ++ [(E, t)]) := by rw [HLD.out, Int.toNat_natCast, ← HEP.out]
        show Done S w b { r with G := r.G.set r.ld.toNat (r.G.getD r.ld.toNat [] ++ [(r.ep, t)]) } _
        rw [e1]
        exact HPP.out
end Go.Proofs.Ythmekhhfihjclbd.L9

namespace Go.Proofs.Ythmekhhfihjclbd.L7
open Go.RowKit L1
set_option linter.unusedVariables false

set_option maxRecDepth 100000 in
set_option maxHeartbeats 4000000 in
theorem endOfStart_any (b : Option Addr) (st : List (Int × Int)) (m cap k : Nat) (en : Int) (w : World) (hm : st.length = m) (ht : SlS w b st) (hm2 : m ≤ 1048576) (hk : k < m) (v : Int) (hv : nxt st k en = v) :
    Calls Try.prog 114 #[.slice b m cap, .int .i64 k, .int .i64 en] w fun e w' => e = .returned (.int .i64 v) ∧ w = w' := by
  by_cases h1 : (k : Int) + 1 < (m : Int)
  · obtain ⟨b1, o1, rfl, _, hd⟩ := ht (k + 1) (by omega)
    have e : v = (st.getD (k + 1) (0, 0)).2 := by rw [← hv]; unfold nxt; rw [if_pos (by omega)]
    rw [← e] at hd
    have hk0 : (0 : Int) ≤ (k : Int) + 1 := by omega
    clear hv e ht hm
    go_enter Try.func114, Try.ntmps114
    go_wp2
    go_ret
    exact ⟨rfl, rfl⟩
  · have e : v = en := by rw [← hv]; unfold nxt; rw [if_neg (by omega)]
    subst e
    clear hv ht hm
    go_enter Try.func114, Try.ntmps114
    go_wp2
    go_ret
    exact ⟨rfl, rfl⟩
end Go.Proofs.Ythmekhhfihjclbd.L7

namespace Go.Proofs.Ythmekhhfihjclbd.L7
open Go.RowKit L1
set_option linter.unusedVariables false

set_option maxRecDepth 100000 in
set_option maxHeartbeats 2000000 in
theorem startsOf_any (a : Option Addr) (l : List En) (n cap : Nat) (w : World) (hn : l.length = n) (hs : SlE w a l) (hn2 : n ≤ 1048576) :
    Calls Try.prog 109 #[.slice a n cap] w fun e w' => RetS w (sts l) e w' := by
  obtain ⟨i1, hi1, hy0, hy1, hy2⟩ := info_parts info_sta
  have HS := hide hs
  have HN := hide hn
  have HR : Hid (sts l = stsK l n) := by show sts l = _; unfold sts; rw [HN.out]
  clear hs hn
  go_enter Try.func109, Try.ntmps109
  go_wp2
  go_loopw [3, 8] (fun ot i wr => ∃ k : Nat, k ≤ n ∧ i = .int .i64 k ∧ wr.ownsRow w.heap.size 117 2 ot (stsK l k).length (flatS (stsK l k)) ∧ Below w.heap.size w wr) (fun _ i _ => n - (intOf i).toNat)
  case atStart => exact ⟨0, Nat.zero_le _, rfl, World.ownsRow_nil _ _ _ _, Below.refl _ _⟩
  case round =>
    obtain ⟨k, hk, rfl, hown, hbel⟩ := hrel
    obtain ⟨oa, ocap, rfl, _, _⟩ := own_formS hown
    by_cases hlt : k < n
    · obtain ⟨b, off, rfl, hc0, hd0⟩ := HS.out k (by rw [HN.out]; exact hlt)
      have hc := (hbel.cell (p := ⟨b, off + k * 2, none⟩) (blk_lt hc0)).trans hc0
      have hd := (hbel.cell (p := ⟨b, off + k * 2 + 1, none⟩) (blk_lt hd0)).trans hd0
      have hltI : (k : Int) < (n : Int) := by omega
      have hml : (stsK l k).length ≤ 1048576 := by have := stsK_len l k; omega
      have hyes := stsK_yes l k
      have hno := stsK_no l k
      have hprev : ∀ j, k = j + 1 → wr.cell? ⟨b, off + j * 2, none⟩ = some (.int .i64 (l.getD j eE).1) := fun j e => by
        obtain ⟨b', off', ha, hp, _⟩ := HS.out j (by rw [HN.out]; omega)
        simp only [Option.some.injEq, Addr.mk.injEq, and_true] at ha
        obtain ⟨rfl, rfl⟩ := ha
        exact (hbel.cell (p := ⟨b, off + j * 2, none⟩) (blk_lt hp)).trans hp
      obtain ⟨x, hx⟩ : ∃ x, x = (l.getD k eE).1 := ⟨_, rfl⟩
      obtain ⟨y, hy⟩ : ∃ y, y = (l.getD k eE).2 := ⟨_, rfl⟩
      rw [← hx] at hc hyes hno
      rw [← hy] at hd
      obtain ⟨ns, hns⟩ : ∃ ns, ns = stsK l k := ⟨_, rfl⟩
      rw [← hns] at hown hml hyes hno ⊢
      obtain ⟨m, hm⟩ : ∃ m, m = ns.length := ⟨_, rfl⟩
      rw [← hm] at hown hml ⊢
      have HM := hide hm
      have HROW := hide hown
      have hsz := hbel.size
      have B0 := hide hbel
      have HYES := hide hyes
      have HNO := hide hno
      have HPREV := hide hprev
      clear hc0 hd0 hx hy hns hown hbel hm hyes hno hprev
      cases k with
      | zero =>
        have HTK := hide (HYES.out (.inl rfl))
        simp only [Nat.zero_mul, Nat.add_zero] at hc hd
        go_wp2
        go_quiet (fail)
        go_wp2_with (first
          | (at_builtin; refine wpList_append_own _ rfl _ _ 107 rfl w.heap.size 117 i1 (.agg #[.int .i64 0, .int .i64 0]) 2 16 Try.underlying107 hi1 hy0 hy1 hy2 rfl (by decide) _ _ _ rfl (((own_drewN (HROW.out.alloc _) _)).alloc _) ⟨wr.heap.size + 1, 0, none⟩ 1 1 [.int .i64 x, .int .i64 0] rfl rfl (cell_two_newD _ _ _ _ _ _) (by intro u hu; simp at hu; rcases hu with rfl | rfl <;> rfl) (by unfold maxLen; omega) (by omega) (by simp; omega) ?_)
          | go_in)
        intro v6 w6 hown6 hgrow6 _
        have hb6 := B0.out.trans (((below_dN ((Below.refl _ _).alloc hsz _) _).alloc (by simp; omega) _) |>.grown hgrow6 (by simp; omega) (fun g hg => (HROW.out.lt g hg).1))
        have hown8 : w6.ownsRow w.heap.size 117 2 v6 (stsK l (0 + 1)).length (flatS (stsK l (0 + 1))) := by
          rw [HTK.out, flatS_append, List.length_append, ← HM.out]; simpa [flatS] using hown6
        have hown7 := hide hown8
        clear hown6 hgrow6 hown8
        go_wp2
        go_roundw
        case rel => exact ⟨0 + 1, by omega, by go_num, hown7.out, hb6⟩
        case measure => simp [intOf]; omega
      | succ j =>
        have hp := HPREV.out j rfl
        obtain ⟨px, hpx⟩ : ∃ px, px = (l.getD j eE).1 := ⟨_, rfl⟩
        rw [← hpx] at hp
        have hjI : (j : Int) < (n : Int) := by omega
        have hj0 : (0 : Int) ≤ (j : Int) := by omega
        have hwj : IntKind.i64.wrap (j : Int) = (j : Int) := by
          simp only [IntKind.wrap, IntKind.bits, IntKind.signed]
          simp
          omega
        have hjn : ((j : Int) + 1 == 0) = false := by simp; omega
        have hpa : ∀ ob, (wr.alloc ob).cell? ⟨b, off + j * 2, none⟩ = some (.int .i64 px) := fun ob => Go.Lib.cell?_alloc_some ob hp
        by_cases hne : px = x
        · have hne' : (x != px) = false := by simp [hne]
          have e := HNO.out (by rw [Nat.add_sub_cancel, ← hpx]; simp [hne])
          have HTK := hide e
          clear hne hpx e HPREV HYES HNO
          go_wp2
          go_quiet (fail)
          go_wp2
          go_roundw
          case rel => exact ⟨j + 1 + 1, by omega, by go_num, by rw [HTK.out, ← HM.out]; exact own_drewN (HROW.out.alloc _) _, below_dN (B0.out.alloc B0.out.size _) _⟩
          case measure => simp [intOf]; omega
        · have hne' : (x != px) = true := by simp; omega
          have e := HYES.out (.inr (by rw [Nat.add_sub_cancel, ← hpx]; exact hne))
          have HTK := hide e
          clear hne hpx e HPREV HYES HNO
          go_wp2
          go_quiet (fail)
          go_wp2_with (first
            | (at_builtin; refine wpList_append_own _ rfl _ _ 107 rfl w.heap.size 117 i1 (.agg #[.int .i64 0, .int .i64 0]) 2 16 Try.underlying107 hi1 hy0 hy1 hy2 rfl (by decide) _ _ _ rfl (((own_drewN (HROW.out.alloc _) _)).alloc _) ⟨wr.heap.size + 1, 0, none⟩ 1 1 [.int .i64 x, .int .i64 ((j : Int) + 1)] rfl rfl (cell_two_newD _ _ _ _ _ _) (by intro u hu; simp at hu; rcases hu with rfl | rfl <;> rfl) (by unfold maxLen; omega) (by omega) (by simp; omega) ?_)
            | go_in)
          intro v6 w6 hown6 hgrow6 _
          have hb6 := B0.out.trans (((below_dN ((Below.refl _ _).alloc hsz _) _).alloc (by simp; omega) _) |>.grown hgrow6 (by simp; omega) (fun g hg => (HROW.out.lt g hg).1))
          have hown8 : w6.ownsRow w.heap.size 117 2 v6 (stsK l (j + 1 + 1)).length (flatS (stsK l (j + 1 + 1))) := by
            rw [HTK.out, flatS_append, List.length_append, ← HM.out]; simpa [flatS] using hown6
          have hown7 := hide hown8
          clear hown6 hgrow6 hown8
          go_wp2
          go_roundw
          case rel => exact ⟨j + 1 + 1, by omega, by go_num, hown7.out, hb6⟩
          case measure => simp [intOf]; omega
    · obtain rfl : k = n := by omega
      have HO := hide hown
      have hltI : ¬ (k : Int) < (k : Int) := by omega
      clear hown
      go_wp2
      go_ret
      exact ⟨_, rfl, by rw [HR.out]; exact HO.out, hbel⟩
end Go.Proofs.Ythmekhhfihjclbd.L7

namespace Go.Proofs.Ythmekhhfihjclbd.L7
open Go.RowKit L1
set_option linter.unusedVariables false

set_option maxRecDepth 100000 in
set_option maxHeartbeats 2000000 in
theorem endOfEpoch_any (a : Option Addr) (l : List En) (n cap : Nat) (ep : Int) (w : World) (hn : l.length = n) (hs : SlE w a l) (hn2 : n ≤ 1048576) (hM : Mono l) :
    Calls Try.prog 113 #[.slice a n cap, .int .i64 ep] w fun e w' => e = .returned (.int .i64 (endE l ep : Int)) ∧ Below w.heap.size w w' := by
  have HS := hide hs
  have HN := hide hn
  have HM := hide hM
  clear hs hn hM
  go_enter Try.func113, Try.ntmps113
  go_wp2
  go_loopw [5] (fun i wr => ∃ k : Nat, k ≤ n ∧ i = .int .i64 k ∧ Hid (∀ j, k ≤ j → j < n → ep < (l.getD j eE).1) ∧ Below w.heap.size w wr) (fun i _ => (intOf i).toNat)
  case atStart => exact ⟨n, Nat.le_refl _, rfl, fun j h1 h2 => by omega, Below.refl _ _⟩
  case round =>
    obtain ⟨k, hk, rfl, HJ, hbel⟩ := hrel
    cases k with
    | zero =>
      have E : Hid (endE l ep = 0) := endE_back l ep 0 HM.out (Nat.zero_le _) (fun j h1 h2 => HJ.out j h1 (by rw [HN.out] at h2; exact h2)) (.inl rfl)
      go_wp2
      go_ret
      exact ⟨by rw [E.out]; rfl, hbel⟩
    | succ j =>
      obtain ⟨b, off, rfl, hc0, _⟩ := HS.out j (by rw [HN.out]; omega)
      have hc := (hbel.cell (p := ⟨b, off + j * 2, none⟩) (blk_lt hc0)).trans hc0
      obtain ⟨x, hx⟩ : ∃ x, x = (l.getD j eE).1 := ⟨_, rfl⟩
      rw [← hx] at hc
      have hjI : (j : Int) < (n : Int) := by omega
      have hj0 : (0 : Int) ≤ (j : Int) := by omega
      have hjp : (0 : Int) < (j : Int) + 1 := by omega
      have hwj : IntKind.i64.wrap (j : Int) = (j : Int) := by
        simp only [IntKind.wrap, IntKind.bits, IntKind.signed]
        simp
        omega
      have HX := hide hx
      have B0 := hide hbel
      clear hx hc0 hbel
      by_cases hg : ep < x
      · have HG := hide hg
        go_wp2
        go_roundw
        case rel =>
          refine ⟨j, by omega, by go_num, fun i h1 h2 => ?_, B0.out⟩
          by_cases e : i = j
          · rw [e, ← HX.out]; exact HG.out
          · exact HJ.out i (by omega) h2
        case measure => simp [intOf]
      · have E : Hid (endE l ep = j + 1) := endE_back l ep (j + 1) HM.out (by rw [HN.out]; omega) (fun i h1 h2 => HJ.out i h1 (by rw [HN.out] at h2; exact h2)) (.inr (by rw [Nat.add_sub_cancel, ← HX.out]; omega))
        go_wp2
        go_ret
        exact ⟨by rw [E.out]; rfl, B0.out⟩
end Go.Proofs.Ythmekhhfihjclbd.L7

namespace Go.Proofs.Ythmekhhfihjclbd.L7
open Go.RowKit L1
set_option linter.unusedVariables false

set_option maxRecDepth 100000 in
set_option maxHeartbeats 4000000 in
theorem findPart_any (a b : Option Addr) (l : List En) (st : List (Int × Int)) (n c1 m c2 : Nat) (en : Int) (w : World) (hn : l.length = n) (hs : SlE w a l) (hn2 : n ≤ 1048576) (hm : st.length = m) (ht : SlS w b st) (hm2 : m ≤ 1048576) (hM : Mono l) (hR : Rise st) (p q : Int) (hpq : find l st en = (p, q)) :
    Calls Try.prog 108 #[.slice a n c1, .slice b m c2, .int .i64 en] w fun e w' => e = .returned (.tuple #[.int .i64 p, .int .i64 q]) ∧ Below w.heap.size w w' := by
  have CS := startsOf_any a l n c1 w hn hs hn2
  have hsl := sts_le l
  unfold find at hpq
  obtain ⟨S, hS⟩ : ∃ S, S = sts l := ⟨_, rfl⟩
  simp only [RetS, ← hS] at CS
  rw [← hS] at hsl hpq
  obtain ⟨sn, hsn⟩ : ∃ sn, sn = S.length := ⟨_, rfl⟩
  simp only [← hsn] at CS
  rw [← hsn] at hsl hpq
  rw [hn] at hsl
  have HCS := hide CS
  have HPQ := hide hpq
  have HSN := hide hsn
  have HS := hide hs
  have HT := hide ht
  have HN := hide hn
  have HM := hide hm
  have HMO := hide hM
  have HRI := hide hR
  clear CS hpq hsn hS hs ht hn hm hM hR
  go_enter Try.func108, Try.ntmps108
  go_wp2
  go_step3
  go_wp2_with fail
  refine HCS.out.mono ?_
  rintro e w1 ⟨v1, rfl, ho1, hb1⟩
  obtain ⟨sa, scap, rfl, hs1, _⟩ := own_formS ho1
  have B1 := hide hb1
  have S1 := hide (HS.out.below hb1)
  have T1 := hide (HT.out.below hb1)
  have O1 := hide hs1
  clear ho1 hs1 hb1 HS HT HCS
  have hsnI : ((sn : Int) - 1) ≤ 1048576 := by omega
  go_wp2
  go_step3
  go_wp2
  go_loopw [9, 10, 11] (fun pl LK i wr => ∃ (k : Nat) (z Q : Int), k ≤ sn ∧ pl = .int .i64 0 ∧ i = .int .i64 z ∧ Hid (z = (k : Int) - 1) ∧ LK = .int .i64 Q ∧ Hid (Q + (k : Int) = (sn : Int)) ∧ Hid (fnd l S st en k Q = (p, q)) ∧ Below w1.heap.size w1 wr) (fun _ _ i _ => (intOf i + 1).toNat)
  case atStart => exact ⟨sn, (sn : Int) - 1, 0, Nat.le_refl _, rfl, rfl, rfl, rfl, by show (0 : Int) + (sn : Int) = (sn : Int); omega, HPQ.out, Below.refl _ _⟩
  case round =>
    obtain ⟨k, z, Q, hk, rfl, rfl, HZ, rfl, HQ, HF, hbel⟩ := hrel
    cases k with
    | zero =>
      have hz : ¬ 0 ≤ z := by have := HZ.out; omega
      have e : (0, Q) = (p, q) := HF.out
      cases e
      have BB := hide (B1.out.trans (hbel.mono B1.out.size))
      clear hbel
      go_wp2
      try rw [Exit.noGoto_ret]
      go_ret2
      exact ⟨rfl, BB.out⟩
    | succ k =>
      obtain rfl : z = (k : Int) := by have := HZ.out; omega
      obtain ⟨b1, o1, rfl, hc0, _⟩ := O1.out k (by rw [← HSN.out]; omega)
      have hk0 : (0 : Int) ≤ (k : Int) := by omega
      have hkI : (k : Int) < (sn : Int) := by omega
      have hfs := fun i => @fnd_some l S st en k i Q
      have hfn := @fnd_none l S st en k Q
      rw [HF.out] at hfn
      simp only [HF.out] at hfs
      have hQ : 0 ≤ Q ∧ Q ≤ 1048576 := by have := HQ.out; omega
      obtain ⟨ep, hep⟩ : ∃ ep, ep = (S.getD k (0, 0)).1 := ⟨_, rfl⟩
      rw [← hep] at hc0 hfn
      simp only [← hep] at hfs
      have HFS := hide hfs
      have HFN := hide hfn
      have HO := hide hc0
      have FB : Hid (∀ w', Below wr.heap.size wr w' → Below w1.heap.size w1 w') := fun w' h => hbel.trans (h.mono hbel.size)
      have hQ0 := hQ.1
      have hQ1 := hQ.2
      obtain ⟨W0, hW0⟩ : ∃ W0, W0 = wr := ⟨_, rfl⟩
      have FB0 : Hid (∀ w', Below W0.heap.size W0 w' → Below w1.heap.size w1 w') := by rw [hW0]; exact FB
      have BW0 : Hid (Below w1.heap.size w1 W0) := by rw [hW0]; exact hbel
      have HQ2 : Hid (Q + 1 + (k : Int) = (sn : Int)) := by show Q + 1 + (k : Int) = (sn : Int); have := HQ.out; omega
      clear hc0 hep hfs hfn hbel HF HZ HQ FB hQ
      go_wp2
      rw [← hW0]
      clear hW0
      go_loopw [9, 27] (fun pl i wq => ∃ j : Nat, j ≤ m ∧ pl = .int .i64 0 ∧ i = .int .i64 j ∧ Hid (∀ i, i < j → (st.getD i (0, 0)).1 < ep) ∧ Below W0.heap.size W0 wq) (fun _ i _ => m - (intOf i).toNat)
      case atStart => exact ⟨0, Nat.zero_le _, rfl, rfl, fun i hi => absurd hi (Nat.not_lt_zero _), Below.refl _ _⟩
      case round =>
        obtain ⟨j, hj, rfl, rfl, HJ, hbq⟩ := hrel
        by_cases hjm : j < m
        · obtain ⟨b2, o2, rfl, p1, p2⟩ := T1.out j (by rw [HM.out]; exact hjm)
          have g1 := ((BW0.out.trans (hbq.mono BW0.out.size)).cell (p := ⟨b2, o2 + j * 2, none⟩) (blk_lt p1)).trans p1
          have g2 := ((BW0.out.trans (hbq.mono BW0.out.size)).cell (p := ⟨b2, o2 + j * 2 + 1, none⟩) (blk_lt p2)).trans p2
          have g3 := ((BW0.out.trans (hbq.mono BW0.out.size)).cell (p := ⟨b1, o1 + k * 2, none⟩) (blk_lt HO.out)).trans HO.out
          have g3a : ∀ ob, (wr.alloc ob).cell? ⟨b1, o1 + k * 2, none⟩ = some (.int .i64 ep) := fun ob => Go.Lib.cell?_alloc_some ob g3
          have hjI : (j : Int) < (m : Int) := by omega
          obtain ⟨x, hx⟩ : ∃ x, x = (st.getD j (0, 0)).1 := ⟨_, rfl⟩
          obtain ⟨y, hy⟩ : ∃ y, y = (st.getD j (0, 0)).2 := ⟨_, rfl⟩
          rw [← hx] at g1
          rw [← hy] at g2
          have HX := hide hx
          have D0 := hide hbq
          clear p1 p2 hx hy hbq
          by_cases h1 : ep < x
          · have HID : Hid (idx st ep = none) := idx_gt HRI.out j (by rw [HM.out]; exact hjm) HJ.out (by rw [← HX.out]; exact h1)
            go_wp2
            go_quiet (fail)
            have HF2 := hide (HFN.out HID.out).symm
            go_wp2
            go_roundw
            case rel => exact ⟨k, (k : Int) - 1, Q + 1, by omega, rfl, by go_num, rfl, by go_num, HQ2.out, HF2.out, FB0.out _ (below_dN (D0.out.alloc D0.out.size _) _)⟩
            case measure => simp [intOf]
          · have h1' : decide (ep < x) = false := by simpa using h1
            by_cases h2 : x = ep
            · have HID : Hid (idx st ep = some j) := idx_some st ep j (by rw [HM.out]; exact hjm) (by rw [← HX.out]; exact h2) (fun i hi => by have := HJ.out i hi; omega)
              have hfe := HFS.out j HID.out
              subst h2
              have h2' : (x == x) = true := by simp
              have CE := fun w hs => endOfEpoch_any a l n c1 x w HN.out hs hn2 HMO.out
              have hle := endK_le l x l.length
              obtain ⟨E, hE⟩ : ∃ E, E = endE l x := ⟨_, rfl⟩
              obtain ⟨N, hN⟩ : ∃ N, nxt st j en = N := ⟨_, rfl⟩
              have CN := fun w ht => endOfStart_any (some ⟨b2, o2, none⟩) st m c2 j en w HM.out ht hm2 hjm N hN
              rw [← hE, hN] at hfe
              simp only [← hE] at CE
              have hE2 : E ≤ 1048576 := by rw [hE]; unfold endE; rw [HN.out] at hle ⊢; omega
              have hmin : min (E : Int) N = p := by have := congrArg Prod.fst hfe; simp only at this; exact this.symm
              have hq : q = Q + 1 := congrArg Prod.snd hfe
              have HCE := hide CE
              have HCN := hide CN
              have HMIN := hide hmin
              have HQQ := hide hq
              clear hfe hE hN CE CN hle hmin hq
              go_wp2
              go_quiet (fail)
              go_wp2_with fail
              go_quiet (fail)
              go_wp2_with fail
              have BX : Hid (∀ N, Below w1.heap.size w1 ((wr.alloc (.cells #[.int .i64 x, .int .i64 y] 117)).drewN N)) := fun N => FB0.out _ (below_dN (D0.out.alloc D0.out.size _) _)
              refine (HCE.out _ (S1.out.below (BX.out _))).mono ?_
              rintro e w3 ⟨rfl, hb3⟩
              have B3 := hide ((BX.out _).trans (hb3.mono (BX.out _).size))
              clear hb3 BX
              go_wp2_with fail
              refine (HCN.out _ (T1.out.below B3.out)).mono ?_
              rintro e w4 ⟨rfl, rfl⟩
              have BB := hide (B1.out.trans (B3.out.mono B1.out.size))
              clear B3
              by_cases hc : N < (E : Int)
              · have hc2 : ¬ (E : Int) ≤ N := by omega
                have hp : Hid (p = N) := by have := HMIN.out; show p = N; omega
                go_wp2
                try rw [Exit.noGoto_ret]
                go_ret2
                exact ⟨by rw [HQQ.out, hp.out]; rfl, BB.out⟩
              · have hc2 : (E : Int) ≤ N := by omega
                have hp : Hid (p = (E : Int)) := by have := HMIN.out; show p = (E : Int); omega
                go_wp2
                try rw [Exit.noGoto_ret]
                go_ret2
                exact ⟨by rw [HQQ.out, hp.out]; rfl, BB.out⟩
            · have h2' : (x == ep) = false := by simpa using h2
              go_wp2
              go_quiet (fail)
              go_wp2
              go_quiet (fail)
              go_wp2
              go_roundw
              case rel =>
                refine ⟨j + 1, by omega, rfl, by go_num, fun i hi => ?_, below_dN (D0.out.alloc D0.out.size _) _⟩
                by_cases e : i = j
                · rw [e, ← HX.out]; omega
                · exact HJ.out i (by omega)
              case measure => simp [intOf]; omega
        · have hjI : ¬ (j : Int) < (m : Int) := by omega
          have HID : Hid (idx st ep = none) := idx_none st ep (fun i hi => by have := HJ.out i (by rw [HM.out] at hi; omega); omega)
          have HF2 := hide (HFN.out HID.out).symm
          have BN := hide (FB0.out _ hbq)
          go_wp2
          go_roundw
          case rel => exact ⟨k, (k : Int) - 1, Q + 1, by omega, rfl, by go_num, rfl, by go_num, HQ2.out, HF2.out, BN.out⟩
          case measure => simp [intOf]
end Go.Proofs.Ythmekhhfihjclbd.L7
