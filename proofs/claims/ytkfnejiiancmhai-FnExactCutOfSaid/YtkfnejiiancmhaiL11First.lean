/-
  Contract: spec.l11First, the events that came first for one.
-/
import Derived.Test.YtkfnejiiancmhaiL11FirstM
import Derived.Test.YtkfnejiiancmhaiL11Prior
import Derived.Test.YtkfnejiiancmhaiQue
import Derived.Test.YtkfnejiiancmhaiHasI
import Derived.Test.YtkfnejiiancmhaiL4PutN
import Derived.Deep.DeepCutAuto
import Derived.Deep.RegionHeld3
namespace Go.Proofs.Ytkfnejiiancmhai.L11
open Go.RowKit L1 Own L4
set_option linter.unusedVariables false

def lenV : Value → Nat
  | .slice _ n _ => n
  | _ => 0
theorem putN_any (v : Value) (xs : List Int) (x : Int) (B0 : Nat) (w : World) (hm : xs.length ≤ 4000) (hx : x ∉ xs) (h : OwnL w B0 v xs) :
    Calls Try.prog 60 #[v, .int .i64 x] w fun e w' => ∃ v', e = .returned v' ∧ OwnL w' w.heap.size v' (put xs x) ∧ Below w.heap.size w w' := by
  rcases h.2 with ⟨hv, h0⟩ | ⟨g, cap, cur, hv, _⟩
  · subst hv
    obtain rfl : xs = [] := List.eq_nil_of_length_eq_zero h0
    exact putNil x w.heap.size w (Nat.le_refl _)
  · subst hv
    exact putSomeN B0 g xs.length cap xs x w.heap.size w (Nat.le_refl _) hm rfl hx h
theorem ownL_form {w : World} {B : Nat} {v : Value} {xs : List Int} (h : OwnL w B v xs) : ∃ a cap, v = .slice a xs.length cap ∧ Sl w a xs := by
  obtain ⟨a, cap, hv, hs, _⟩ := own_form h
  exact ⟨a, cap, hv, hs⟩
/-- What is in memory while it is searched. -/
structure FB (w wr : World) (ot : Value) (b off cap : Nat) (xs ws : List Int) : Prop where
  out : OwnL wr w.heap.size ot xs
  que : Qu wr w.heap.size b off cap ws
  ne : ot.ownBlock ≠ some b
  bel : Below w.heap.size w wr
theorem FB.below {w wr w' : World} {ot : Value} {b off cap : Nat} {xs ws : List Int} (h : FB w wr ot b off cap xs ws) (hb : Below wr.heap.size wr w') : FB w w' ot b off cap xs ws :=
  ⟨own_belowT h.out hb, h.que.below hb, h.ne, h.bel.trans (hb.mono h.bel.size)⟩
/-- Within a round. -/
structure IN (l : List Ev) (k i xl m : Nat) (w wr : World) (ot : Value) (rb : Nat) (p y : Int) (j b off cap : Nat) (xs ws : List Int) : Prop where
  fb : FB w wr ot b off cap xs ws
  bj : BJ l k i j xs ws
  br : b ≠ rb
  r0 : wr.cell? ⟨rb, 0, none⟩ = some (.int .i64 p)
  r1 : wr.cell? ⟨rb, 1, none⟩ = some (.int .i64 y)
  ms : 2 * (k - xs.length) + ws.length ≤ 2 * (k - xl) + m
theorem IN.below {l : List Ev} {k i xl m : Nat} {w wr w' : World} {ot : Value} {rb : Nat} {p y : Int} {j b off cap : Nat} {xs ws : List Int} (h : IN l k i xl m w wr ot rb p y j b off cap xs ws) (hb : Below wr.heap.size wr w') : IN l k i xl m w w' ot rb p y j b off cap xs ws :=
  ⟨h.fb.below hb, h.bj, h.br, (hb.cell (p := ⟨rb, 0, none⟩) (blk_lt h.r0)).trans h.r0, (hb.cell (p := ⟨rb, 1, none⟩) (blk_lt h.r1)).trans h.r1, h.ms⟩
theorem IN.skip {l : List Ev} {k i xl m : Nat} {w wr : World} {ot : Value} {rb : Nat} {p y : Int} {j b off cap : Nat} {xs ws : List Int} (h : IN l k i xl m w wr ot rb p y j b off cap xs ws) (hj : j < 2) (hs : ∀ p : Nat, parN l i j = (p : Int) → (p : Int) ∈ xs) : IN l k i xl m w wr ot rb p y (j + 1) b off cap xs ws :=
  ⟨h.fb, h.bj.skip hj hs, h.br, h.r0, h.r1, h.ms⟩
set_option maxRecDepth 100000 in
set_option maxHeartbeats 8000000 in
theorem l11First_any (N : Int) (lb lo : Nat) (l : List (Int × Int)) (n lcap k : Nat) (w : World) (hn : l.length = n) (hs : Sl2 w (some ⟨lb, lo, none⟩) l) (hk : k < n) (hg : GoodV N l) :
    Calls Try.prog 31 #[.slice (some ⟨lb, lo, none⟩) n lcap, .int .i64 k] w fun e w' => ∃ v, e = .returned v ∧ ∃ xs : List Int, OwnL w' w.heap.size v xs ∧ (∀ p : Nat, (p : Int) ∈ xs ↔ Anc l p k) ∧ (∀ x ∈ xs, ∃ p : Nat, x = (p : Int) ∧ Anc l p k) ∧ xs.length ≤ 40 ∧ Below w.heap.size w w' := by
  have h40 : n ≤ 40 := by have := hg.2.2.1; omega
  have HG := hide hg
  have HS := hide hs
  have HN := hide hn
  clear hg hs hn
  go_enter Try.func31, Try.ntmps31
  go_upto_region 3 with fail
  obtain ⟨W, hW⟩ : ∃ W, w.alloc (.cells #[.int .i64 k] 3) = W := ⟨_, rfl⟩
  have F0 : Hid (FB w W (.slice none 0 0) w.heap.size 0 1 [] [(k : Int)]) := by
    rw [← hW]
    exact hide ⟨World.ownsRow_nil _ _ _ _, qu_new w _ (Nat.le_refl _) _, by simp [Value.ownBlock], (Below.refl _ _).alloc (Nat.le_refl _) _⟩
  rw [hW]
  clear hW
  go_loopw [5, 6] (fun ot wt wr => ∃ (xs ws : List Int) (b off cap : Nat), wt = .slice (some ⟨b, off, none⟩) ws.length cap ∧ Hid (FB w wr ot b off cap xs ws) ∧ Hid (BI l k xs ws)) (fun ot wt _ => 2 * (k - lenV ot) + lenV wt)
  case atStart => exact ⟨[], [(k : Int)], w.heap.size, 0, 1, rfl, F0, bi_start l k⟩
  case round =>
    obtain ⟨xs, ws, b, off, cap, rfl, HF, HI⟩ := hrel
    obtain ⟨oa, ocap, hov, _⟩ := ownL_form HF.out.out
    subst hov
    match ws, HF, HI with
    | [], HF, HI =>
      have HA := hide HI.out.all
      have HAN := hide HI.out.anc
      have hl := HI.out.len
      go_wp2
      go_ret
      exact ⟨_, rfl, xs, HF.out.out, HA.out, HAN.out, by omega, HF.out.bel⟩
    | x :: ws, HF, HI =>
      have hin := HI.out.want x (by simp)
      obtain ⟨i, hi⟩ : ∃ i : Nat, x = (i : Int) := by
        rcases hin with h1 | h1
        · exact ⟨k, h1⟩
        · obtain ⟨p, e, _⟩ := HI.out.anc _ h1; exact ⟨p, e⟩
      subst hi
      have HJ := hide HI.out.pop
      have hik := HJ.out.idx
      have hv := HG.out.2.2.2 i (by rw [HN.out]; omega)
      have hfi := hv.2.2.2.1
      have hq0 := HF.out.que.cell 0 (by simp)
      simp only [Nat.add_zero, List.getD_cons_zero] at hq0
      have hle := HF.out.que.le
      have hlen : ((i : Int) :: ws).length = ws.length + 1 := rfl
      rw [hlen] at hle
      obtain ⟨off', hof⟩ : ∃ off', off' = if cap = 1 then off else off + 1 := ⟨_, rfl⟩
      have hpop := slice_pop b off (ws.length + 1) cap off' (by omega) hle hof
      simp only [Nat.add_sub_cancel] at hpop
      have HF2 : Hid (FB w wr (.slice oa xs.length ocap) b off' (cap - 1) xs ws) := hide ⟨HF.out.out, by rw [hof]; exact HF.out.que.pop, HF.out.ne, HF.out.bel⟩
      have hml := HI.out.len
      have hsl := HS.out.below HF.out.bel
      obtain ⟨_, hy1⟩ := hsl.two i (by rw [HN.out]; omega)
      obtain ⟨y, hy⟩ : ∃ y, y = fr l i := ⟨_, rfl⟩
      obtain ⟨p, hp⟩ : ∃ p, p = pri l (nd l i) i := ⟨_, rfl⟩
      rw [← hy] at hy1
      have CP : Hid (∀ wx, Below wr.heap.size wr wx → Calls Try.prog 58 #[.slice (some ⟨lb, lo, none⟩) n lcap, .int .i64 i] wx fun e w' => e = .returned (.int .i64 p) ∧ Below wx.heap.size wx w') := hide (fun wx hb => prior_any lb lo l n lcap i wx HN.out (hsl.below hb) (by omega) (by omega) p hp)
      have hiI : (i : Int) < (n : Int) := by omega
      have hi0 : (0 : Int) ≤ (i : Int) := by omega
      have h0len : (0 : Int) < ((ws.length + 1 : Nat) : Int) := by omega
      have HP := hide hp
      have HY := hide hy
      have HFI := hide hfi
      clear hin hle hof hsl hy hp hv hfi
      rw [hlen]
      clear hlen
      obtain ⟨m, hm⟩ : ∃ m, m = ws.length := ⟨_, rfl⟩
      rw [← hm] at hpop h0len ⊢
      have HM := hide hm
      obtain ⟨xl, hxl⟩ : ∃ xl, xl = xs.length := ⟨_, rfl⟩
      rw [← hxl] at hml HF2 ⊢
      have HXL := hide hxl
      have HML := hide hml
      clear hm hxl hml HF HI
      go_upto_region 6 with fail
      refine wp_region_held_drew (S := (fun wx => wx.cell? ⟨lb, lo + i * 2 + 1, none⟩ = some (.int .i64 y) ∧ Below wr.heap.size wr wx)) (by kernel_rfl) ⟨hy1, (Below.refl _ _).drew⟩ (fun hHeld => ?_)
      refine wpAnyH_take (i := 0) (v := ?v1) rfl (by kernel_rfl) (by kernel_rfl) (by kernel_rfl) (fun _ _ _ h => h) (Or.inl ⟨by rfl, ?y1⟩) (by assumption) ?r1
      case y1 => (intro w hSw; (try dsimp only at hSw); go_simp; try (with_reducible rfl))
      simp only [List.getElem_toArray, List.getElem_cons_zero, Act.put, List.setIfInBounds_toArray, List.set_cons_zero, List.set_cons_succ]
      refine wpAnyH_take (i := 1) (v := ?v2) rfl (by kernel_rfl) (by kernel_rfl) (by kernel_rfl) (fun _ _ _ h => h) (Or.inl ⟨by rfl, ?y2⟩) (by assumption) ?r2
      case y2 => (intro w hSw; (try dsimp only at hSw); go_simp; try (with_reducible rfl))
      simp only [List.getElem_toArray, List.getElem_cons_succ, List.getElem_cons_zero, Act.put, List.setIfInBounds_toArray, List.set_cons_zero, List.set_cons_succ]
      refine wpAnyH_take (i := 3) (v := ?v3) rfl (by kernel_rfl) (by kernel_rfl) (by kernel_rfl) (fun _ _ _ h => h) (Or.inl ⟨by rfl, ?y3⟩) (by assumption) ?r3
      case y3 => (intro w hSw; (try dsimp only at hSw); go_simp; try (with_reducible rfl))
      simp only [List.getElem_toArray, List.getElem_cons_succ, List.getElem_cons_zero, Act.put, List.setIfInBounds_toArray, List.set_cons_zero, List.set_cons_succ]
      refine wpAnyH_take (i := 4) (v := ?v4) rfl (by kernel_rfl) (by kernel_rfl) (by kernel_rfl) (fun _ _ _ h => h) (Or.inl ⟨by rfl, ?y4⟩) (by assumption) ?r4
      case y4 => (intro w hSw; (try dsimp only at hSw); go_simp; try (with_reducible rfl))
      simp only [List.getElem_toArray, List.getElem_cons_succ, List.getElem_cons_zero, Act.put, List.setIfInBounds_toArray, List.set_cons_zero, List.set_cons_succ]
      refine wpAnyH_take (i := 5) (v := ?v5) rfl (by kernel_rfl) (by kernel_rfl) (by kernel_rfl) (fun _ _ _ h => h) (Or.inl ⟨by rfl, ?y5⟩) (by assumption) ?r5
      case y5 => (intro w hSw; (try dsimp only at hSw); go_simp; try (with_reducible rfl))
      simp only [List.getElem_toArray, List.getElem_cons_succ, List.getElem_cons_zero, Act.put, List.setIfInBounds_toArray, List.set_cons_zero, List.set_cons_succ]
      refine wpAnyH_take (i := 6) (v := ?v6) rfl (by kernel_rfl) (by kernel_rfl) (by kernel_rfl) (fun _ _ _ h => h) (Or.inl ⟨by rfl, ?y6⟩) (by assumption) ?r6
      case y6 => (intro w hSw; (try dsimp only at hSw); go_simp; try (with_reducible rfl))
      simp only [List.getElem_toArray, List.getElem_cons_succ, List.getElem_cons_zero, Act.put, List.setIfInBounds_toArray, List.set_cons_zero, List.set_cons_succ]
      refine wpAnyH_take (i := 7) (v := ?v7) rfl (by kernel_rfl) (by kernel_rfl) (by kernel_rfl) (fun _ _ _ h => h) (Or.inl ⟨by rfl, ?y7⟩) (by assumption) ?r7
      case y7 => (intro w hSw; (try dsimp only at hSw); go_simp; try (with_reducible rfl))
      simp only [List.getElem_toArray, List.getElem_cons_succ, List.getElem_cons_zero, Act.put, List.setIfInBounds_toArray, List.set_cons_zero, List.set_cons_succ]
      refine wpAnyH_take (i := 10) (v := ?v8) rfl (by kernel_rfl) (by kernel_rfl) (by kernel_rfl) (fun _ _ _ h => h) (Or.inl ⟨by rfl, ?y8⟩) (by assumption) ?r8
      case y8 => (intro w hSw; (try dsimp only at hSw); go_simp; try (with_reducible rfl))
      simp only [List.getElem_toArray, List.getElem_cons_succ, List.getElem_cons_zero, Act.put, List.setIfInBounds_toArray, List.set_cons_zero, List.set_cons_succ]
      refine wpAnyH_ready (rs := [2]) (by kernel_rfl) (by simp) ?_
      refine AllReadyH.cons rfl (fun K hK => ?_) AllReadyH.nil
      simp only [List.getElem_toArray, List.getElem_cons_succ, List.getElem_cons_zero]
      go_simp
      go_at_call 58
      refine (CP.out _ hHeld.2).mono ?_
      rintro e w1 ⟨rfl, hb1⟩
      dsimp only
      refine hK.out _ _ ?_ (fun hHeld => ?_)
      · exact ⟨(hb1.cell (p := ⟨lb, lo + i * 2 + 1, none⟩) (blk_lt hHeld.1)).trans hHeld.1, hHeld.2.trans (hb1.mono hHeld.2.size)⟩
      clear hK K
      try simp only [Act.put, List.setIfInBounds_toArray, List.set_cons_zero, List.set_cons_succ]
      have hH8 := hide hHeld
      refine wpAnyH_ready (rs := [8]) (by kernel_rfl) (by simp) ?_
      refine AllReadyH.cons rfl (fun K hK => ?_) AllReadyH.nil
      simp only [List.getElem_toArray, List.getElem_cons_succ, List.getElem_cons_zero]
      go_simp
      refine hK.out _ _ ?_ (fun hHeld => ?_)
      · exact ⟨Go.Lib.cell?_alloc_some _ hHeld.1, hHeld.2.alloc hHeld.2.size _⟩
      clear hK K
      try simp only [Act.put, List.setIfInBounds_toArray, List.set_cons_zero, List.set_cons_succ]
      refine wpAnyH_take (i := 9) (v := ?v9) rfl (by kernel_rfl) (by kernel_rfl) (by kernel_rfl) (fun _ _ _ h => h) (Or.inl ⟨by rfl, ?y9⟩) (by assumption) ?r9
      case y9 => (intro w hSw; (try dsimp only at hSw); go_simp; try (with_reducible rfl))
      simp only [List.getElem_toArray, List.getElem_cons_succ, List.getElem_cons_zero, Act.put, List.setIfInBounds_toArray, List.set_cons_zero, List.set_cons_succ]
      refine wpAnyH_done (by kernel_rfl) ?_ _
      have HF3 := hide (HF2.out.below hH8.out.2)
      obtain ⟨V, hV⟩ : ∃ V, w1.alloc (.cells #[.int .i64 p, .int .i64 y] 3) = V := ⟨_, rfl⟩
      have r0 : V.cell? ⟨w1.heap.size, 0, none⟩ = some (.int .i64 p) := by rw [← hV]; simp
      have r1 : V.cell? ⟨w1.heap.size, 1, none⟩ = some (.int .i64 y) := by rw [← hV]; simp
      have hbV : Below w1.heap.size w1 V := by rw [← hV]; exact (Below.refl _ _).alloc (Nat.le_refl _) _
      have HF4 := hide (HF3.out.below hbV)
      have hbr : b ≠ w1.heap.size := by have := HF3.out.que.lt; omega
      rw [hV]
      obtain ⟨rb, hrb⟩ : ∃ rb, rb = w1.heap.size := ⟨_, rfl⟩
      rw [← hrb] at r0 r1 hbr ⊢
      have F4 : Hid (IN l k i xl m w V (.slice oa xl ocap) rb p y 0 b off' (cap - 1) xs ws) := hide ⟨HF4.out, HJ.out, hbr, r0, r1, by have h1 := HXL.out; have h2 := HM.out; omega⟩
      clear hV hbV hrb hHeld hH8 HF2 HF3 HF4 HJ hbr r0 r1 hy1 hq0 hpop CP
      go_wp2
      go_loopw [5, 6, 30] (fun ot wt iv wr => ∃ (j : Nat) (xs ws : List Int) (b off cap : Nat), j ≤ 2 ∧ iv = .int .i64 j ∧ wt = .slice (some ⟨b, off, none⟩) ws.length cap ∧ Hid (IN l k i xl m w wr ot rb p y j b off cap xs ws)) (fun _ _ iv _ => 2 - (intOf iv).toNat)
      case atStart => exact ⟨0, xs, ws, b, off', cap - 1, by omega, rfl, by rw [HM.out], F4⟩
      case round =>
        clear F4
        obtain ⟨j, xs, ws, b, off, cap, hj2, rfl, rfl, HIN⟩ := hrel
        obtain ⟨oa, ocap, hov, hso⟩ := ownL_form HIN.out.fb.out
        subst hov
        have hxk := HIN.out.bj.len
        by_cases hj : j < 2
        · have hjI : (j : Int) < 2 := by omega
          have hj0 : (0 : Int) ≤ (j : Int) := by omega
          have hcx : wr.cell? ⟨rb, j, none⟩ = some (.int .i64 (parN l i j)) := by
            match j, hj with
            | 0, _ => rw [HIN.out.r0, HP.out]; rfl
            | 1, _ => rw [HIN.out.r1, HY.out]; rfl
          obtain ⟨z, hz⟩ : ∃ z, z = parN l i j := ⟨_, rfl⟩
          rw [← hz] at hcx
          have HZ := hide hz
          obtain ⟨xn, hxn⟩ : ∃ xn, xn = xs.length := ⟨_, rfl⟩
          obtain ⟨wn, hwn⟩ : ∃ wn, wn = ws.length := ⟨_, rfl⟩
          have HXN := hide hxn
          have HWN := hide hwn
          rw [← hxn] at hxk ⊢
          rw [← hwn]
          have HSO := hide hso
          clear hz hso hxn hwn
          by_cases hz0 : z < 0
          · have hzb : ¬ 0 ≤ z := by omega
            have N2 : Hid (IN l k i xl m w wr (.slice oa xn ocap) rb p y (j + 1) b off cap xs ws) := hide (by
              rw [HXN.out]
              exact HIN.out.skip hj (fun q hq => by rw [← HZ.out] at hq; omega))
            clear hz0
            go_wp2
            go_roundw
            case rel => exact ⟨j + 1, xs, ws, b, off, cap, by omega, by go_num, by rw [HWN.out], N2⟩
            case measure => simp [intOf]; omega
          · obtain ⟨q, hq⟩ : ∃ q : Nat, z = (q : Int) := ⟨z.toNat, by omega⟩
            subst hq
            by_cases hmem : (q : Int) ∈ xs
            · have CH := hide (fun w hs => l1Has_any oa xs xn ocap (q : Int) w HXN.out.symm hs (by omega) true (by simp [hmem]))
              have N2 : Hid (IN l k i xl m w wr (.slice oa xn ocap) rb p y (j + 1) b off cap xs ws) := hide (by
                rw [HXN.out]
                exact HIN.out.skip hj (fun q2 hq2 => by rw [← HZ.out] at hq2; rw [← hq2]; exact hmem))
              clear hz0 hmem
              go_wp2_with fail
              refine (CH.out _ HSO.out).mono ?_
              rintro e w3 ⟨rfl, hb3⟩
              have N3 := hide (N2.out.below hb3)
              clear hb3
              go_wp2
              go_roundw
              case rel => exact ⟨j + 1, xs, ws, b, off, cap, by omega, by go_num, by rw [HWN.out], N3⟩
              case measure => simp [intOf]; omega
            · have CH := hide (fun w hs => l1Has_any oa xs xn ocap (q : Int) w HXN.out.symm hs (by omega) false (by simp [hmem]))
              have hpl := put_len_new xs (q : Int) hmem
              have HBJ := hide (HIN.out.bj.add hj HFI.out HZ.out.symm hmem hpl)
              have HNM := hide hmem
              have HPL := hide hpl
              clear hz0 hmem hpl
              go_wp2_with fail
              refine (CH.out _ HSO.out).mono ?_
              rintro e w3 ⟨rfl, hb3⟩
              have HI3 := hide (HIN.out.below hb3)
              clear hb3 HIN
              go_wp2_with fail
              refine (putN_any (.slice oa xn ocap) xs (q : Int) w.heap.size w3 (by have := HXN.out; omega) (HNM.out) (by have := HI3.out.fb.out; rw [← HXN.out] at this; exact this)).mono ?_
              rintro e w4 ⟨v4, rfl, ho4, hb4⟩
              have hq4 := HI3.out.fb.que.below hb4
              have hb4l := HI3.out.fb.que.lt
              have B4 := hide (HI3.out.fb.bel.trans (hb4.mono HI3.out.fb.bel.size))
              obtain ⟨a4, c4, hv4, _⟩ := ownL_form ho4
              subst hv4
              have hne4 : (Value.slice a4 (put xs (q : Int)).length c4).ownBlock ≠ some b := fun e => by have := (ho4.lt b e).1; omega
              have rr0 := (hb4.cell (p := ⟨rb, 0, none⟩) (blk_lt HI3.out.r0)).trans HI3.out.r0
              have rr1 := (hb4.cell (p := ⟨rb, 1, none⟩) (blk_lt HI3.out.r1)).trans HI3.out.r1
              have hrl := blk_lt rr0
              have HO4 := hide (own_baseT ho4 (HI3.out.fb.bel.size))
              have HQ4 := hide hq4
              have HNE4 := hide hne4
              have HR0 := hide rr0
              have HR1 := hide rr1
              have HBR := hide HI3.out.br
              have HMS := hide HI3.out.ms
              have hsz4 := B4.out.size
              have hsz4' : w.heap.size ≤ w4.heap.size := hsz4
              have hwl := HI3.out.bj.wl
              rw [HPL.out, ← HXN.out]
              have HO5 := HO4
              rw [HPL.out, ← HXN.out] at HO5 HNE4
              clear ho4 hb4 hq4 hne4 rr0 rr1 HI3 HO4
              go_wp2_with (first
                | (at_builtin; refine wpList_append_queue rfl _ _ rfl w.heap.size b off cap ws (HQ4.out.below ((Below.refl _ _).alloc (Nat.le_refl _) _)) (by simp; omega) (q : Int) (by have := HXN.out; omega) wn HWN.out.symm rfl ⟨w4.heap.size, 0, none⟩ 1 rfl (by simp [Addr.add]) ?_)
                | go_in)
              intro b' off' cap' w6 hq6 hg6 hbb
              have F6 : Hid (IN l k i xl m w w6 (.slice a4 (xn + 1) c4) rb p y (j + 1) b' off' cap' (put xs (q : Int)) (ws ++ [(q : Int)])) := hide (by
                have hal : Below w4.heap.size w4 (w4.alloc (.cells #[.int .i64 (q : Int)] 3)) := (Below.refl _ _).alloc (Nat.le_refl _) _
                have hsza : w4.heap.size < (w4.alloc (.cells #[.int .i64 (q : Int)] 3)).heap.size := by simp
                have hblk : ∀ r, r < w4.heap.size → r ≠ b → w6.heap[r]? = w4.heap[r]? := fun r h1 h2 => (hg6.block r (by omega) (by simp; exact h2)).trans (hal.block r h1)
                have hgeb := HQ4.out.ge
                refine ⟨⟨?_, hq6, ?_, ?_⟩, HBJ.out, ?_, ?_, ?_, ?_⟩
                · have h1 := (own_belowT HO5.out hal).kept hg6 (by
                    cases h9 : (Value.slice a4 (xn + 1) c4).ownBlock with
                    | none => exact .inl rfl
                    | some r => exact .inr (fun e => HNE4.out (by rw [h9]; exact e)))
                  show w6.ownsRow _ _ _ _ _ _
                  rw [HPL.out, ← HXN.out]
                  exact h1
                · intro e
                  rcases hbb with h1 | h1
                  · subst h1; exact HNE4.out e
                  · have := (HO5.out.lt b' e).2; omega
                · have h3 := B4.out.trans (hal.mono B4.out.size)
                  exact h3.grown hg6 h3.size (fun r hr => by cases hr; exact hgeb)
                · rcases hbb with h1 | h1
                  · subst h1; exact HBR.out
                  · omega
                · exact (World.cell?_of_block (a := ⟨rb, 0, none⟩) (hblk rb hrl (Ne.symm HBR.out))).trans HR0.out
                · exact (World.cell?_of_block (a := ⟨rb, 1, none⟩) (hblk rb hrl (Ne.symm HBR.out))).trans HR1.out
                · have h1 := HMS.out
                  have h2 := HBJ.out.len
                  rw [HPL.out] at h2 ⊢
                  simp
                  omega)
              clear hq6 hg6 hbb
              go_wp2
              go_roundw
              case rel => exact ⟨j + 1, put xs (q : Int), ws ++ [(q : Int)], b', off', cap', by omega, by go_num, by rw [List.length_append, HWN.out]; rfl, F6⟩
              case measure => simp [intOf]; omega
        · obtain rfl : j = 2 := by omega
          have h22 : ((2 : Nat) : Int) = 2 := rfl
          rw [h22]
          clear h22
          have N9 := hide HIN.out.fb
          have J9 := hide HIN.out.bj.shut
          have hms := HIN.out.ms
          have hxl2 := HML.out
          clear HIN hso
          go_wp2
          go_roundw
          case rel => exact ⟨xs, ws, b, off, cap, rfl, N9, J9⟩
          case measure => simp [lenV]; omega
end Go.Proofs.Ytkfnejiiancmhai.L11
