/-
  Contracts: the draw of a query.
-/
import Derived.Test.YthicdnkngpiccabL4DrawX
import Derived.Test.YthicdnkngpiccabL4Qu
namespace Go.Proofs.Ythicdnkngpiccab.L4
open Go.RowKit L1 L3
set_option linter.unusedVariables false
set_option linter.unusedSimpArgs false

/-- A part in a block of its own. -/
def PB (w : World) (g : Nat) (p : Qr) : Prop := w.heap[g]? = some (.cells #[.int .i64 p.k, .string p.n, .string p.v, .int .i64 p.a, .int .i64 p.b] 51 (0, 0))
theorem PB.grown {w w' : World} {g b : Nat} {p : Qr} (h : PB w g p) (hg : w.grownBy w' (some b)) (hb : g ≠ b) : PB w' g p := by
  unfold PB
  rw [hg.block g (Array.getElem?_eq_some_iff.1 h).1 (by simpa using hb)]
  exact h
theorem PB.lt {w : World} {g : Nat} {p : Qr} (h : PB w g p) : g < w.heap.size := (Array.getElem?_eq_some_iff.1 h).1
/-- A query that the caller owns. -/
def OwnQ (w : World) (B : Nat) (v : Value) (m : Nat) : Prop := ∃ l : List Qr, (1 ≤ l.length ∧ l.length ≤ m) ∧ (∀ p ∈ l, p.n.size ≤ 20 ∧ p.v.size ≤ 20) ∧ w.ownsRow B 51 5 v l.length (flatQ l)
theorem OwnQ.grown {w w' : World} {B b m : Nat} {v : Value} (h : OwnQ w B v m) (hg : w.grownBy w' (some b)) (hb : b < B) : OwnQ w' B v m := by
  obtain ⟨xs, hl, hp, ho⟩ := h
  exact ⟨xs, hl, hp, own_grown4 ho hg hb⟩
theorem cell_five_at (w : World) (p : Qr) (t : TypeId) : ∀ j u, (cq p)[j]? = some u → (w.alloc (.cells #[.int .i64 p.k, .string p.n, .string p.v, .int .i64 p.a, .int .i64 p.b] t)).cell? ((⟨w.heap.size, 0, none⟩ : Addr).add j) = some u := by
  intro j u h
  rw [addr_add]
  match j, h with
  | 0, h => simp [cq] at h; subst h; simp
  | 1, h => simp [cq] at h; subst h; simp
  | 2, h => simp [cq] at h; subst h; simp
  | 3, h => simp [cq] at h; subst h; simp
  | 4, h => simp [cq] at h; subst h; simp
  | j + 5, h => simp [cq] at h
theorem cell_five_of (g : Nat) (w : World) (p : Qr) (t : TypeId) (hg : w.heap.size = g) : ∀ j u, (cq p)[j]? = some u → (w.alloc (.cells #[.int .i64 p.k, .string p.n, .string p.v, .int .i64 p.a, .int .i64 p.b] t)).cell? ((⟨g, 0, none⟩ : Addr).add j) = some u := by
  subst hg
  exact cell_five_at w p t
theorem flatQ_snoc (l : List Qr) (p : Qr) : flatQ (l ++ [p]) = flatQ l ++ cq p := by rw [flatQ_append]; rfl
theorem cq_one (p : Qr) : ∀ u ∈ cq p, u.oneCell' = true := by
  intro u hu
  simp [cq] at hu
  rcases hu with rfl | rfl | rfl | rfl | rfl <;> rfl
theorem own_lit (w : World) (p : Qr) : (w.alloc (.cells #[.int .i64 p.k, .string p.n, .string p.v, .int .i64 p.a, .int .i64 p.b] 51)).ownsRow w.heap.size 51 5 (.slice (some ⟨w.heap.size, 0, none⟩) 1 1) 1 (flatQ [p]) := by
  exact ⟨rfl, .inr ⟨w.heap.size, 1, _, rfl, Nat.le_refl _, by show (w.heap.push _)[w.heap.size]? = _; exact Array.getElem?_push_size, Nat.le_refl _, by unfold maxLen; omega, rfl, rfl⟩⟩
theorem OwnQ.mono {w : World} {B m m' : Nat} {v : Value} (h : OwnQ w B v m) (hm : m ≤ m') : OwnQ w B v m' := by
  obtain ⟨xs, hl, hp, ho⟩ := h
  exact ⟨xs, ⟨hl.1, by omega⟩, hp, ho⟩
theorem PB.new (w : World) (p : Qr) : PB (w.alloc (.cells #[.int .i64 p.k, .string p.n, .string p.v, .int .i64 p.a, .int .i64 p.b] 51)) w.heap.size p := by
  unfold PB
  show (w.heap.push _)[w.heap.size]? = _
  exact Array.getElem?_push_size
theorem PB.setA {w : World} {g : Nat} {p : Qr} (h : PB w g p) (y : Int) : PB (w.setCell ⟨g, 3, none⟩ (.int .i64 y)) g { p with a := y } := by
  have h1 := heap_setCell_same w g 3 _ _ (.int .i64 y) h
  unfold PB
  rw [h1]
  rfl
theorem flatQ_setA : ∀ (l : List Qr) (i : Nat) (y : Int), i < l.length → flatQ (l.set i { l.getD i eQ with a := y }) = (flatQ l).set (i * 5 + 3) (.int .i64 y)
  | [], _, _, h => by simp at h
  | q :: l, 0, y, _ => rfl
  | q :: l, i + 1, y, h => by
    have := flatQ_setA l i y (by simpa using h)
    have e : (i + 1) * 5 + 3 = i * 5 + 3 + 1 + 1 + 1 + 1 + 1 := by omega
    rw [e]
    simp only [List.set_cons_succ, flatQ, List.getD_cons_succ, this]
theorem ownB_ne {w : World} {B n c W : Nat} {t : TypeId} {v : Value} {xs : List Value} (h : w.ownsRow B t c v n xs) (hW : w.heap.size ≤ W) : v.ownBlock ≠ some W := fun e => by
  have := (h.lt _ e).2
  omega

set_option maxRecDepth 100000 in
set_option maxHeartbeats 8000000 in
theorem query_any (b N : Nat) (w : World) (h : Cur w b N) (hN : N ≤ 10000000) :
    Calls Try.prog 41 #[.pointer (some ⟨b, 0, none⟩)] w fun e w' => ∃ v, e = .returned v ∧ OwnQ w' w.heap.size v 21 ∧ Cur w' b (N + 1000) ∧ w.grownBy w' (some b) := by
  obtain ⟨i1, hi1, hy0, hy1, hy2⟩ := info_parts info_qu
  have hbw := h.lt
  have hQ0 : OwnQ (w.alloc (.cells #[.int .i64 2, .string ⟨#[97, 112, 112]⟩, .string ⟨#[97]⟩, .int .i64 0, .int .i64 0] 51)) w.heap.size (.slice (some ⟨w.heap.size, 0, none⟩) 1 1) 1 := ⟨[⟨2, ⟨#[97, 112, 112]⟩, ⟨#[97]⟩, 0, 0⟩], by simp, by decide, own_lit w _⟩
  have hC0 := h.alloc (.cells #[.int .i64 2, .string ⟨#[97, 112, 112]⟩, .string ⟨#[97]⟩, .int .i64 0, .int .i64 0] 51)
  have hG0 := grown_alloc w (.cells #[.int .i64 2, .string ⟨#[97, 112, 112]⟩, .string ⟨#[97]⟩, .int .i64 0, .int .i64 0] 51) b
  have HC := hide hC0
  have HG0 := hide hG0
  have HQ0 := hide hQ0
  clear h hC0 hG0 hQ0
  go_enter Try.func41, Try.ntmps41
  go_wp2_with fail
  refine (pick_any b N 7 _ HC.out (by omega) (by omega) (by omega)).mono ?_
  rintro e w1 ⟨o0, rfl, ho0, _, ho5, hc1, hg1⟩
  have ho5' := ho5 (by omega)
  obtain ⟨k0, rfl⟩ : ∃ k0 : Nat, o0 = (k0 : Int) := ⟨o0.toNat, by omega⟩
  have C1 := hide hc1
  have G1 := hide (grown_trans HG0.out hg1)
  have Q1 := hide (HQ0.out.grown hg1 hbw)
  clear hc1 hg1 ho5 ho0
  go_wp2_with fail
  refine (one_any b _ 20 _ C1.out (by omega) (by omega) (by omega)).mono ?_
  rintro e w2 ⟨t, rfl, hc2, hg2⟩
  have C2 := hide hc2
  have G2 := hide (grown_trans G1.out hg2)
  have Q2 := hide (Q1.out.grown hg2 hbw)
  clear hc2 hg2
  cases t with
  | true =>
    go_wp2_with fail
    refine (pick_any b _ 3 _ C2.out (by omega) (by omega) (by omega)).mono ?_
    rintro e w3 ⟨o1, rfl, ho1, _, ho6, hc3, hg3⟩
    have ho6' := ho6 (by omega)
    obtain ⟨k1, rfl⟩ : ∃ k1 : Nat, o1 = (k1 : Int) := ⟨o1.toNat, by omega⟩
    obtain ⟨kk, hkk⟩ : ∃ kk : Nat, kk = 18 + k1 := ⟨_, rfl⟩
    have hki : 18 + (k1 : Int) = (kk : Int) := by omega
    have HKI := hide hki
    have h59 : 0 ≤ (k1 : Int) ∧ (k1 : Int) < 3 := by omega
    have hk61 : kk ≤ 20 := by omega
    have C3 := hide hc3
    have G3 := hide (grown_trans G2.out hg3)
    have Q3 := hide (Q2.out.grown hg3 hbw)
    clear hc3 hg3 ho6 ho1 hki hkk
    go_wp2
    go_loopw [3, 4] (fun lv nv wr => ∃ k : Nat, k ≤ 20 ∧ nv = .int .i64 k ∧ OwnQ wr w.heap.size lv (21 - k) ∧ Cur wr b (N + 6 + 20 * (20 - k)) ∧ w.grownBy wr (some b)) (fun _ nv _ => (intOf nv).toNat)
    case atStart => exact ⟨kk, hk61, by rw [HKI.out], Q3.out.mono (by omega), C3.out.mono (by omega), G3.out⟩
    case round =>
      obtain ⟨k, hk, rfl, hP, hC, hG⟩ := hrel
      obtain ⟨l, hll, hlp, hrow⟩ := hP
      obtain ⟨n, hn⟩ : ∃ n, n = l.length := ⟨_, rfl⟩
      rw [← hn] at hll hrow
      have hsz := hG.size
      obtain ⟨oa, ocap, rfl⟩ := own_shapeT hrow
      have HN := hide hn.symm
      have HROW := hide hrow
      have HLP := hide hlp
      have HCC := hide hC
      have HG := hide hG
      clear hn hrow hlp hC hG
      by_cases hk0 : 0 < (k : Int)
      · go_wp2_with fail
        refine (pick_any b _ 5 _ HCC.out (by omega) (by omega) (by omega)).mono ?_
        rintro e w5 ⟨x, rfl, hx0, _, hx5, hc5, hg5⟩
        have hx5' := hx5 (by omega)
        have HROW5 := hide (own_grown4 HROW.out hg5 hbw)
        have G5 := hide (grown_trans HG.out hg5)
        have hsz5 := G5.out.size
        have C5 := hide hc5
        have hne := ownB_ne HROW5.out (Nat.le_refl _)
        have HNE := hide hne
        clear hc5 hg5 hx5 HROW HG HCC hne
        obtain rfl | rfl | rfl | rfl | rfl : x = 0 ∨ x = 1 ∨ x = 2 ∨ x = 3 ∨ x = 4 := by omega
        · have R6 := hide (HROW5.out.alloc (.cells #[.int .i64 1, .string ⟨#[]⟩, .string ⟨#[]⟩, .int .i64 0, .int .i64 0] 51))
          have C6 := hide (C5.out.alloc (.cells #[.int .i64 1, .string ⟨#[]⟩, .string ⟨#[]⟩, .int .i64 0, .int .i64 0] 51))
          have G6 := hide (grown_trans G5.out (grown_alloc _ (.cells #[.int .i64 1, .string ⟨#[]⟩, .string ⟨#[]⟩, .int .i64 0, .int .i64 0] 51) _))
          have hsz6 := G6.out.size
          go_wp2_with (first
            | (at_builtin; refine wpList_append_own _ rfl _ _ 36 rfl w.heap.size 51 i1 (.agg #[.int .i64 0, .string ByteArray.empty, .string ByteArray.empty, .int .i64 0, .int .i64 0]) 5 56 Try.underlying36 hi1 hy0 hy1 hy2 rfl (by decide) _ _ _ rfl (R6.out.alloc _) ⟨w5.heap.size + 1, 0, none⟩ 1 1 (cq (⟨1, ⟨#[]⟩, ⟨#[]⟩, 0, 0⟩ : Qr)) rfl rfl (cell_five_of _ _ (⟨1, ⟨#[]⟩, ⟨#[]⟩, 0, 0⟩ : Qr) _ (by simp [World.setCell])) (cq_one (⟨1, ⟨#[]⟩, ⟨#[]⟩, 0, 0⟩ : Qr)) (by unfold maxLen; omega) (by omega) (by simp; omega) ?_)
            | go_in)
          intro v9 w9 hown9 hgrow9 _
          have hb9 : Below w.heap.size (w5.alloc (.cells #[.int .i64 1, .string ⟨#[]⟩, .string ⟨#[]⟩, .int .i64 0, .int .i64 0] 51)) w9 := ((Below.refl _ _).alloc hsz6 _).grown hgrow9 (by simp; omega) (fun g hg => (R6.out.lt g hg).1)
          have O9 : Hid (OwnQ w9 w.heap.size v9 (21 - (k - 1))) := by
            refine hide ⟨l ++ [(⟨1, ⟨#[]⟩, ⟨#[]⟩, 0, 0⟩ : Qr)], by simp; have := HN.out; omega, fun p hp => ?_, ?_⟩
            · rcases List.mem_append.1 hp with h | h
              · exact HLP.out p h
              · simp at h; subst h; exact ⟨Nat.zero_le _, Nat.zero_le _⟩
            · rw [flatQ_snoc, List.length_append, HN.out]
              exact hown9
          have C9 := hide (C6.out.kept (fun i hi => hb9.block i (by omega)))
          have G9 := hide (grown_low G6.out hb9)
          clear hown9 hgrow9 hb9
          go_wp2
          go_roundw
          case rel => exact ⟨k - 1, by omega, by congr 1; omega, O9.out, C9.out.mono (by omega), G9.out⟩
          case measure => simp [intOf]; omega
        · have R6 := hide (HROW5.out.alloc (.cells #[.int .i64 2, .string ⟨#[]⟩, .string ⟨#[]⟩, .int .i64 0, .int .i64 0] 51))
          have G6 := hide (grown_trans G5.out (grown_alloc _ (.cells #[.int .i64 2, .string ⟨#[]⟩, .string ⟨#[]⟩, .int .i64 0, .int .i64 0] 51) _))
          have P6 := hide (PB.new w5 ⟨2, ⟨#[]⟩, ⟨#[]⟩, 0, 0⟩)
          have AL := hide (label_any b _ _ (C5.out.alloc (.cells #[.int .i64 2, .string ⟨#[]⟩, .string ⟨#[]⟩, .int .i64 0, .int .i64 0] 51)) (by omega))
          go_wp2_with fail
          refine AL.out.mono ?_
          rintro e w7 ⟨s1, s2, rfl, hs12, hc7, hg7⟩
          have P7 := P6.out.grown hg7 (by omega)
          have c0 : w7.cell? ⟨w5.heap.size, 0, none⟩ = some (.int .i64 2) := Lib.cell_of_heap P7 0
          have c1 : w7.cell? ⟨w5.heap.size, 1, none⟩ = some (.string ⟨#[]⟩) := Lib.cell_of_heap P7 1
          have c2 : w7.cell? ⟨w5.heap.size, 2, none⟩ = some (.string ⟨#[]⟩) := Lib.cell_of_heap P7 2
          have c3 : w7.cell? ⟨w5.heap.size, 3, none⟩ = some (.int .i64 0) := Lib.cell_of_heap P7 3
          have c4 : w7.cell? ⟨w5.heap.size, 4, none⟩ = some (.int .i64 0) := Lib.cell_of_heap P7 4
          have f1 := Lib.frozen_of_heap P7 1
          have f2 := Lib.frozen_of_heap P7 2
          have hbs := ((Below.refl w.heap.size w7).setCell (p := ⟨w5.heap.size, 1, none⟩) hsz5 (.string s1)).setCell (p := ⟨w5.heap.size, 2, none⟩) hsz5 (.string s2)
          have R7 := hide (ownsRow_setCell_other (ownsRow_setCell_other (own_grown4 R6.out hg7 hbw) (a := ⟨w5.heap.size, 1, none⟩) HNE.out (.string s1)) (a := ⟨w5.heap.size, 2, none⟩) HNE.out (.string s2))
          have G7 := hide (grown_low (grown_trans G6.out hg7) hbs)
          have C7 := hide (hc7.kept (fun i hi => hbs.block i (by omega)))
          have hsz7 := G7.out.size
          have hzz7 : w.heap.size ≤ w7.heap.size := by simpa using hsz7
          clear hc7 hg7 hbs R6 G6 P6 AL P7
          go_wp2_with (first
            | (at_builtin; refine wpList_append_own _ rfl _ _ 36 rfl w.heap.size 51 i1 (.agg #[.int .i64 0, .string ByteArray.empty, .string ByteArray.empty, .int .i64 0, .int .i64 0]) 5 56 Try.underlying36 hi1 hy0 hy1 hy2 rfl (by decide) _ _ _ rfl (R7.out.alloc _) ⟨w7.heap.size, 0, none⟩ 1 1 (cq (⟨2, s1, s2, 0, 0⟩ : Qr)) rfl rfl (cell_five_of _ _ (⟨2, s1, s2, 0, 0⟩ : Qr) _ (by simp [World.setCell])) (cq_one (⟨2, s1, s2, 0, 0⟩ : Qr)) (by unfold maxLen; omega) (by omega) (by simp; omega) ?_)
            | go_in)
          intro v9 w9 hown9 hgrow9 _
          have hb9 : Below w.heap.size ((w7.setCell ⟨w5.heap.size, 1, none⟩ (.string s1)).setCell ⟨w5.heap.size, 2, none⟩ (.string s2)) w9 := ((Below.refl _ _).alloc hsz7 _).grown hgrow9 (by simp; omega) (fun g hg => (R7.out.lt g hg).1)
          have O9 : Hid (OwnQ w9 w.heap.size v9 (21 - (k - 1))) := by
            refine hide ⟨l ++ [(⟨2, s1, s2, 0, 0⟩ : Qr)], by simp; have := HN.out; omega, fun p hp => ?_, ?_⟩
            · rcases List.mem_append.1 hp with h | h
              · exact HLP.out p h
              · simp at h; subst h; exact hs12
            · rw [flatQ_snoc, List.length_append, HN.out]
              exact hown9
          have C9 := hide (C7.out.kept (fun i hi => hb9.block i (by omega)))
          have G9 := hide (grown_low G7.out hb9)
          clear hown9 hgrow9 hb9
          go_wp2
          go_roundw
          case rel => exact ⟨k - 1, by omega, by congr 1; omega, O9.out, C9.out.mono (by omega), G9.out⟩
          case measure => simp [intOf]; omega
        · have R6 := hide (HROW5.out.alloc (.cells #[.int .i64 3, .string ⟨#[]⟩, .string ⟨#[]⟩, .int .i64 0, .int .i64 0] 51))
          have G6 := hide (grown_trans G5.out (grown_alloc _ (.cells #[.int .i64 3, .string ⟨#[]⟩, .string ⟨#[]⟩, .int .i64 0, .int .i64 0] 51) _))
          have P6 := hide (PB.new w5 ⟨3, ⟨#[]⟩, ⟨#[]⟩, 0, 0⟩)
          have AL := hide (pick_any b _ (n : Int) _ (C5.out.alloc (.cells #[.int .i64 3, .string ⟨#[]⟩, .string ⟨#[]⟩, .int .i64 0, .int .i64 0] 51)) (by omega) (by omega) (by omega))
          go_wp2_with fail
          refine AL.out.mono ?_
          rintro e w7 ⟨y, rfl, hy0', hy1', _, hc7, hg7⟩
          have P7 := P6.out.grown hg7 (by omega)
          have c3 : w7.cell? ⟨w5.heap.size, 3, none⟩ = some (.int .i64 0) := Lib.cell_of_heap P7 3
          have f3 := Lib.frozen_of_heap P7 3
          have hbs := (Below.refl w.heap.size w7).setCell (p := ⟨w5.heap.size, 3, none⟩) hsz5 (.int .i64 y)
          have R7 := hide (ownsRow_setCell_other (own_grown4 R6.out hg7 hbw) (a := ⟨w5.heap.size, 3, none⟩) HNE.out (.int .i64 y))
          have G7 := hide (grown_low (grown_trans G6.out hg7) hbs)
          have C7 := hide (hc7.kept (fun i hi => hbs.block i (by omega)))
          have PP7 := hide (P7.setA y)
          clear hc7 hg7 hbs R6 G6 P6 AL P7
          go_wp2_with fail
          refine (pick_any b _ (n : Int) _ C7.out (by omega) (by omega) (by omega)).mono ?_
          rintro e w8 ⟨z, rfl, hz0', hz1', _, hc8, hg8⟩
          have P8 := PP7.out.grown hg8 (by omega)
          clear c3 f3
          have c0 : w8.cell? ⟨w5.heap.size, 0, none⟩ = some (.int .i64 3) := Lib.cell_of_heap P8 0
          have c1 : w8.cell? ⟨w5.heap.size, 1, none⟩ = some (.string ⟨#[]⟩) := Lib.cell_of_heap P8 1
          have c2 : w8.cell? ⟨w5.heap.size, 2, none⟩ = some (.string ⟨#[]⟩) := Lib.cell_of_heap P8 2
          have c3 : w8.cell? ⟨w5.heap.size, 3, none⟩ = some (.int .i64 y) := Lib.cell_of_heap P8 3
          have c4 : w8.cell? ⟨w5.heap.size, 4, none⟩ = some (.int .i64 0) := Lib.cell_of_heap P8 4
          have f4 := Lib.frozen_of_heap P8 4
          have hbs := (Below.refl w.heap.size w8).setCell (p := ⟨w5.heap.size, 4, none⟩) hsz5 (.int .i64 z)
          have R8 := hide (ownsRow_setCell_other (own_grown4 R7.out hg8 hbw) (a := ⟨w5.heap.size, 4, none⟩) HNE.out (.int .i64 z))
          have G8 := hide (grown_low (grown_trans G7.out hg8) hbs)
          have C8 := hide (hc8.kept (fun i hi => hbs.block i (by omega)))
          have hsz8 := G8.out.size
          have hzz8 : w.heap.size ≤ w8.heap.size := by simpa using hsz8
          clear hc8 hg8 hbs R7 G7 PP7 P8 C7
          go_wp2_with (first
            | (at_builtin; refine wpList_append_own _ rfl _ _ 36 rfl w.heap.size 51 i1 (.agg #[.int .i64 0, .string ByteArray.empty, .string ByteArray.empty, .int .i64 0, .int .i64 0]) 5 56 Try.underlying36 hi1 hy0 hy1 hy2 rfl (by decide) _ _ _ rfl (R8.out.alloc _) ⟨w8.heap.size, 0, none⟩ 1 1 (cq (⟨3, ⟨#[]⟩, ⟨#[]⟩, y, z⟩ : Qr)) rfl rfl (cell_five_of _ _ (⟨3, ⟨#[]⟩, ⟨#[]⟩, y, z⟩ : Qr) _ (by simp [World.setCell])) (cq_one (⟨3, ⟨#[]⟩, ⟨#[]⟩, y, z⟩ : Qr)) (by unfold maxLen; omega) (by omega) (by simp; omega) ?_)
            | go_in)
          intro v9 w9 hown9 hgrow9 _
          have hb9 : Below w.heap.size (w8.setCell ⟨w5.heap.size, 4, none⟩ (.int .i64 z)) w9 := ((Below.refl _ _).alloc hsz8 _).grown hgrow9 (by simp; omega) (fun g hg => (R8.out.lt g hg).1)
          have O9 : Hid (OwnQ w9 w.heap.size v9 (21 - (k - 1))) := by
            refine hide ⟨l ++ [(⟨3, ⟨#[]⟩, ⟨#[]⟩, y, z⟩ : Qr)], by simp; have := HN.out; omega, fun p hp => ?_, ?_⟩
            · rcases List.mem_append.1 hp with h | h
              · exact HLP.out p h
              · simp at h; subst h; exact ⟨Nat.zero_le _, Nat.zero_le _⟩
            · rw [flatQ_snoc, List.length_append, HN.out]
              exact hown9
          have C9 := hide (C8.out.kept (fun i hi => hb9.block i (by omega)))
          have G9 := hide (grown_low G8.out hb9)
          clear hown9 hgrow9 hb9
          go_wp2
          go_roundw
          case rel => exact ⟨k - 1, by omega, by congr 1; omega, O9.out, C9.out.mono (by omega), G9.out⟩
          case measure => simp [intOf]; omega
        · have R6 := hide (HROW5.out.alloc (.cells #[.int .i64 4, .string ⟨#[]⟩, .string ⟨#[]⟩, .int .i64 0, .int .i64 0] 51))
          have G6 := hide (grown_trans G5.out (grown_alloc _ (.cells #[.int .i64 4, .string ⟨#[]⟩, .string ⟨#[]⟩, .int .i64 0, .int .i64 0] 51) _))
          have P6 := hide (PB.new w5 ⟨4, ⟨#[]⟩, ⟨#[]⟩, 0, 0⟩)
          have AL := hide (pick_any b _ (n : Int) _ (C5.out.alloc (.cells #[.int .i64 4, .string ⟨#[]⟩, .string ⟨#[]⟩, .int .i64 0, .int .i64 0] 51)) (by omega) (by omega) (by omega))
          go_wp2_with fail
          refine AL.out.mono ?_
          rintro e w7 ⟨y, rfl, hy0', hy1', _, hc7, hg7⟩
          have P7 := P6.out.grown hg7 (by omega)
          have c3 : w7.cell? ⟨w5.heap.size, 3, none⟩ = some (.int .i64 0) := Lib.cell_of_heap P7 3
          have f3 := Lib.frozen_of_heap P7 3
          have hbs := (Below.refl w.heap.size w7).setCell (p := ⟨w5.heap.size, 3, none⟩) hsz5 (.int .i64 y)
          have R7 := hide (ownsRow_setCell_other (own_grown4 R6.out hg7 hbw) (a := ⟨w5.heap.size, 3, none⟩) HNE.out (.int .i64 y))
          have G7 := hide (grown_low (grown_trans G6.out hg7) hbs)
          have C7 := hide (hc7.kept (fun i hi => hbs.block i (by omega)))
          have PP7 := hide (P7.setA y)
          clear hc7 hg7 hbs R6 G6 P6 AL P7
          go_wp2_with fail
          refine (pick_any b _ (n : Int) _ C7.out (by omega) (by omega) (by omega)).mono ?_
          rintro e w8 ⟨z, rfl, hz0', hz1', _, hc8, hg8⟩
          have P8 := PP7.out.grown hg8 (by omega)
          clear c3 f3
          have c0 : w8.cell? ⟨w5.heap.size, 0, none⟩ = some (.int .i64 4) := Lib.cell_of_heap P8 0
          have c1 : w8.cell? ⟨w5.heap.size, 1, none⟩ = some (.string ⟨#[]⟩) := Lib.cell_of_heap P8 1
          have c2 : w8.cell? ⟨w5.heap.size, 2, none⟩ = some (.string ⟨#[]⟩) := Lib.cell_of_heap P8 2
          have c3 : w8.cell? ⟨w5.heap.size, 3, none⟩ = some (.int .i64 y) := Lib.cell_of_heap P8 3
          have c4 : w8.cell? ⟨w5.heap.size, 4, none⟩ = some (.int .i64 0) := Lib.cell_of_heap P8 4
          have f4 := Lib.frozen_of_heap P8 4
          have hbs := (Below.refl w.heap.size w8).setCell (p := ⟨w5.heap.size, 4, none⟩) hsz5 (.int .i64 z)
          have R8 := hide (ownsRow_setCell_other (own_grown4 R7.out hg8 hbw) (a := ⟨w5.heap.size, 4, none⟩) HNE.out (.int .i64 z))
          have G8 := hide (grown_low (grown_trans G7.out hg8) hbs)
          have C8 := hide (hc8.kept (fun i hi => hbs.block i (by omega)))
          have hsz8 := G8.out.size
          have hzz8 : w.heap.size ≤ w8.heap.size := by simpa using hsz8
          clear hc8 hg8 hbs R7 G7 PP7 P8 C7
          go_wp2_with (first
            | (at_builtin; refine wpList_append_own _ rfl _ _ 36 rfl w.heap.size 51 i1 (.agg #[.int .i64 0, .string ByteArray.empty, .string ByteArray.empty, .int .i64 0, .int .i64 0]) 5 56 Try.underlying36 hi1 hy0 hy1 hy2 rfl (by decide) _ _ _ rfl (R8.out.alloc _) ⟨w8.heap.size, 0, none⟩ 1 1 (cq (⟨4, ⟨#[]⟩, ⟨#[]⟩, y, z⟩ : Qr)) rfl rfl (cell_five_of _ _ (⟨4, ⟨#[]⟩, ⟨#[]⟩, y, z⟩ : Qr) _ (by simp [World.setCell])) (cq_one (⟨4, ⟨#[]⟩, ⟨#[]⟩, y, z⟩ : Qr)) (by unfold maxLen; omega) (by omega) (by simp; omega) ?_)
            | go_in)
          intro v9 w9 hown9 hgrow9 _
          have hb9 : Below w.heap.size (w8.setCell ⟨w5.heap.size, 4, none⟩ (.int .i64 z)) w9 := ((Below.refl _ _).alloc hsz8 _).grown hgrow9 (by simp; omega) (fun g hg => (R8.out.lt g hg).1)
          have O9 : Hid (OwnQ w9 w.heap.size v9 (21 - (k - 1))) := by
            refine hide ⟨l ++ [(⟨4, ⟨#[]⟩, ⟨#[]⟩, y, z⟩ : Qr)], by simp; have := HN.out; omega, fun p hp => ?_, ?_⟩
            · rcases List.mem_append.1 hp with h | h
              · exact HLP.out p h
              · simp at h; subst h; exact ⟨Nat.zero_le _, Nat.zero_le _⟩
            · rw [flatQ_snoc, List.length_append, HN.out]
              exact hown9
          have C9 := hide (C8.out.kept (fun i hi => hb9.block i (by omega)))
          have G9 := hide (grown_low G8.out hb9)
          clear hown9 hgrow9 hb9
          go_wp2
          go_roundw
          case rel => exact ⟨k - 1, by omega, by congr 1; omega, O9.out, C9.out.mono (by omega), G9.out⟩
          case measure => simp [intOf]; omega
        · have R6 := hide (HROW5.out.alloc (.cells #[.int .i64 5, .string ⟨#[]⟩, .string ⟨#[]⟩, .int .i64 0, .int .i64 0] 51))
          have G6 := hide (grown_trans G5.out (grown_alloc _ (.cells #[.int .i64 5, .string ⟨#[]⟩, .string ⟨#[]⟩, .int .i64 0, .int .i64 0] 51) _))
          have P6 := hide (PB.new w5 ⟨5, ⟨#[]⟩, ⟨#[]⟩, 0, 0⟩)
          have AL := hide (pick_any b _ (n : Int) _ (C5.out.alloc (.cells #[.int .i64 5, .string ⟨#[]⟩, .string ⟨#[]⟩, .int .i64 0, .int .i64 0] 51)) (by omega) (by omega) (by omega))
          go_wp2_with fail
          refine AL.out.mono ?_
          rintro e w7 ⟨y, rfl, hy0', hy1', _, hc7, hg7⟩
          have P7 := P6.out.grown hg7 (by omega)
          have c0 : w7.cell? ⟨w5.heap.size, 0, none⟩ = some (.int .i64 5) := Lib.cell_of_heap P7 0
          have c1 : w7.cell? ⟨w5.heap.size, 1, none⟩ = some (.string ⟨#[]⟩) := Lib.cell_of_heap P7 1
          have c2 : w7.cell? ⟨w5.heap.size, 2, none⟩ = some (.string ⟨#[]⟩) := Lib.cell_of_heap P7 2
          have c3 : w7.cell? ⟨w5.heap.size, 3, none⟩ = some (.int .i64 0) := Lib.cell_of_heap P7 3
          have c4 : w7.cell? ⟨w5.heap.size, 4, none⟩ = some (.int .i64 0) := Lib.cell_of_heap P7 4
          have f3 := Lib.frozen_of_heap P7 3
          have hbs := (Below.refl w.heap.size w7).setCell (p := ⟨w5.heap.size, 3, none⟩) hsz5 (.int .i64 y)
          have R7 := hide (ownsRow_setCell_other (own_grown4 R6.out hg7 hbw) (a := ⟨w5.heap.size, 3, none⟩) HNE.out (.int .i64 y))
          have G7 := hide (grown_low (grown_trans G6.out hg7) hbs)
          have C7 := hide (hc7.kept (fun i hi => hbs.block i (by omega)))
          have hsz7 := G7.out.size
          have hzz7 : w.heap.size ≤ w7.heap.size := by simpa using hsz7
          clear hc7 hg7 hbs R6 G6 P6 AL P7
          go_wp2_with (first
            | (at_builtin; refine wpList_append_own _ rfl _ _ 36 rfl w.heap.size 51 i1 (.agg #[.int .i64 0, .string ByteArray.empty, .string ByteArray.empty, .int .i64 0, .int .i64 0]) 5 56 Try.underlying36 hi1 hy0 hy1 hy2 rfl (by decide) _ _ _ rfl (R7.out.alloc _) ⟨w7.heap.size, 0, none⟩ 1 1 (cq (⟨5, ⟨#[]⟩, ⟨#[]⟩, y, 0⟩ : Qr)) rfl rfl (cell_five_of _ _ (⟨5, ⟨#[]⟩, ⟨#[]⟩, y, 0⟩ : Qr) _ (by simp [World.setCell])) (cq_one (⟨5, ⟨#[]⟩, ⟨#[]⟩, y, 0⟩ : Qr)) (by unfold maxLen; omega) (by omega) (by simp; omega) ?_)
            | go_in)
          intro v9 w9 hown9 hgrow9 _
          have hb9 : Below w.heap.size (w7.setCell ⟨w5.heap.size, 3, none⟩ (.int .i64 y)) w9 := ((Below.refl _ _).alloc hsz7 _).grown hgrow9 (by simp; omega) (fun g hg => (R7.out.lt g hg).1)
          have O9 : Hid (OwnQ w9 w.heap.size v9 (21 - (k - 1))) := by
            refine hide ⟨l ++ [(⟨5, ⟨#[]⟩, ⟨#[]⟩, y, 0⟩ : Qr)], by simp; have := HN.out; omega, fun p hp => ?_, ?_⟩
            · rcases List.mem_append.1 hp with h | h
              · exact HLP.out p h
              · simp at h; subst h; exact ⟨Nat.zero_le _, Nat.zero_le _⟩
            · rw [flatQ_snoc, List.length_append, HN.out]
              exact hown9
          have C9 := hide (C7.out.kept (fun i hi => hb9.block i (by omega)))
          have G9 := hide (grown_low G7.out hb9)
          clear hown9 hgrow9 hb9
          go_wp2
          go_roundw
          case rel => exact ⟨k - 1, by omega, by congr 1; omega, O9.out, C9.out.mono (by omega), G9.out⟩
          case measure => simp [intOf]; omega
      · obtain ⟨g, ocap', e', hcc⟩ : ∃ g c, Value.slice oa n ocap = .slice (some ⟨g, 0, none⟩) n c ∧ n ≤ c := by
          rcases HROW.out.2 with ⟨_, h0⟩ | ⟨g, cap, cur, hv, _, _, hc, _⟩
          · omega
          · exact ⟨g, cap, hv, hc⟩
        cases e'
        have hgw := (HROW.out.lt g rfl).1
        go_wp2_with fail
        refine (one_any b _ 20 _ HCC.out (by omega) (by omega) (by omega)).mono ?_
        rintro e w5 ⟨t5, rfl, hc5, hg5⟩
        have O5 := hide (own_grown4 HROW.out hg5 hbw)
        have C5 := hide hc5
        have G5 := hide (grown_trans HG.out hg5)
        clear hc5 hg5 HCC HG HROW
        cases t5 with
        | true =>
          go_wp2_with fail
          refine (pick_any b _ (n : Int) _ C5.out (by omega) (by omega) (by omega)).mono ?_
          rintro e w6 ⟨x6, rfl, hx6, _, hx6', hc6, hg6⟩
          have hx6'' := hx6' (by omega)
          obtain ⟨j, rfl⟩ : ∃ j : Nat, x6 = (j : Int) := ⟨x6.toNat, by omega⟩
          have O6 := hide (own_grown4 O5.out hg6 hbw)
          have C6 := hide hc6
          have G6 := hide (grown_trans G5.out hg6)
          clear hc6 hg6 O5 G5 C5 hx6'
          go_wp2_with fail
          refine (pick_any b _ 9 _ C6.out (by omega) (by omega) (by omega)).mono ?_
          rintro e w8 ⟨y8, rfl, hy8, hy8', _, hc8, hg8⟩
          have hown8 := own_grown4 O6.out hg8 hbw
          have hfl : (flatQ l).length = n * 5 := by rw [flatQ_len, HN.out]
          have hcl := hown8.cellAt (j * 5 + 3) (by omega)
          have hfr := hown8.frozenAt (j * 5 + 3)
          obtain ⟨u, hu⟩ : ∃ u, w8.cell? ⟨g, j * 5 + 3, none⟩ = some u := ⟨_, hcl.trans (List.getElem?_eq_getElem (by omega))⟩
          have hs1 := hown8.stored (j * 5 + 3) (.int .i64 (y8 - 1))
          have hbs := (Below.refl w.heap.size w8).setCell (p := ⟨g, j * 5 + 3, none⟩) hgw (.int .i64 (y8 - 1))
          have O9 : Hid (OwnQ (w8.setCell ⟨g, j * 5 + 3, none⟩ (.int .i64 (y8 - 1))) w.heap.size (.slice (some ⟨g, 0, none⟩) n ocap) 21) := by
            refine hide ⟨l.set j { l.getD j eQ with a := y8 - 1 }, by rw [List.length_set, HN.out]; omega, fun p hp => ?_, ?_⟩
            · rcases List.mem_or_eq_of_mem_set hp with h | h
              · exact HLP.out p h
              · subst h
                have hj : j < l.length := by rw [HN.out]; omega
                have e : l.getD j eQ = l[j] := by simp [List.getD, List.getElem?_eq_getElem hj]
                show (l.getD j eQ).n.size ≤ 20 ∧ (l.getD j eQ).v.size ≤ 20
                rw [e]
                exact HLP.out _ (List.getElem_mem hj)
            · rw [List.length_set, HN.out, flatQ_setA l j _ (by rw [HN.out]; omega)]
              exact hs1.1
          have C9 := hide (hc8.kept (fun i hi => hbs.block i (by omega)))
          have G9 := hide (grown_low (grown_trans G6.out hg8) hbs)
          have hjI : (j : Int) < (n : Int) := by omega
          clear hown8 hfl hcl hs1 hbs hc8 hg8 O6 G6 C6
          go_wp2
          go_ret
          exact ⟨_, rfl, O9.out, C9.out.mono (by omega), G9.out⟩
        | false =>
          go_wp2
          go_ret
          exact ⟨_, rfl, ⟨l, by rw [HN.out]; omega, HLP.out, by rw [HN.out]; exact O5.out⟩, C5.out.mono (by omega), G5.out⟩
  | false =>
    go_wp2
    go_loopw [3, 4] (fun lv nv wr => ∃ k : Nat, k ≤ 20 ∧ nv = .int .i64 k ∧ OwnQ wr w.heap.size lv (21 - k) ∧ Cur wr b (N + 6 + 20 * (20 - k)) ∧ w.grownBy wr (some b)) (fun _ nv _ => (intOf nv).toNat)
    case atStart => exact ⟨k0, by omega, rfl, Q2.out.mono (by omega), C2.out.mono (by omega), G2.out⟩
    case round =>
      obtain ⟨k, hk, rfl, hP, hC, hG⟩ := hrel
      obtain ⟨l, hll, hlp, hrow⟩ := hP
      obtain ⟨n, hn⟩ : ∃ n, n = l.length := ⟨_, rfl⟩
      rw [← hn] at hll hrow
      have hsz := hG.size
      obtain ⟨oa, ocap, rfl⟩ := own_shapeT hrow
      have HN := hide hn.symm
      have HROW := hide hrow
      have HLP := hide hlp
      have HCC := hide hC
      have HG := hide hG
      clear hn hrow hlp hC hG
      by_cases hk0 : 0 < (k : Int)
      · go_wp2_with fail
        refine (pick_any b _ 5 _ HCC.out (by omega) (by omega) (by omega)).mono ?_
        rintro e w5 ⟨x, rfl, hx0, _, hx5, hc5, hg5⟩
        have hx5' := hx5 (by omega)
        have HROW5 := hide (own_grown4 HROW.out hg5 hbw)
        have G5 := hide (grown_trans HG.out hg5)
        have hsz5 := G5.out.size
        have C5 := hide hc5
        have hne := ownB_ne HROW5.out (Nat.le_refl _)
        have HNE := hide hne
        clear hc5 hg5 hx5 HROW HG HCC hne
        obtain rfl | rfl | rfl | rfl | rfl : x = 0 ∨ x = 1 ∨ x = 2 ∨ x = 3 ∨ x = 4 := by omega
        · have R6 := hide (HROW5.out.alloc (.cells #[.int .i64 1, .string ⟨#[]⟩, .string ⟨#[]⟩, .int .i64 0, .int .i64 0] 51))
          have C6 := hide (C5.out.alloc (.cells #[.int .i64 1, .string ⟨#[]⟩, .string ⟨#[]⟩, .int .i64 0, .int .i64 0] 51))
          have G6 := hide (grown_trans G5.out (grown_alloc _ (.cells #[.int .i64 1, .string ⟨#[]⟩, .string ⟨#[]⟩, .int .i64 0, .int .i64 0] 51) _))
          have hsz6 := G6.out.size
          go_wp2_with (first
            | (at_builtin; refine wpList_append_own _ rfl _ _ 36 rfl w.heap.size 51 i1 (.agg #[.int .i64 0, .string ByteArray.empty, .string ByteArray.empty, .int .i64 0, .int .i64 0]) 5 56 Try.underlying36 hi1 hy0 hy1 hy2 rfl (by decide) _ _ _ rfl (R6.out.alloc _) ⟨w5.heap.size + 1, 0, none⟩ 1 1 (cq (⟨1, ⟨#[]⟩, ⟨#[]⟩, 0, 0⟩ : Qr)) rfl rfl (cell_five_of _ _ (⟨1, ⟨#[]⟩, ⟨#[]⟩, 0, 0⟩ : Qr) _ (by simp [World.setCell])) (cq_one (⟨1, ⟨#[]⟩, ⟨#[]⟩, 0, 0⟩ : Qr)) (by unfold maxLen; omega) (by omega) (by simp; omega) ?_)
            | go_in)
          intro v9 w9 hown9 hgrow9 _
          have hb9 : Below w.heap.size (w5.alloc (.cells #[.int .i64 1, .string ⟨#[]⟩, .string ⟨#[]⟩, .int .i64 0, .int .i64 0] 51)) w9 := ((Below.refl _ _).alloc hsz6 _).grown hgrow9 (by simp; omega) (fun g hg => (R6.out.lt g hg).1)
          have O9 : Hid (OwnQ w9 w.heap.size v9 (21 - (k - 1))) := by
            refine hide ⟨l ++ [(⟨1, ⟨#[]⟩, ⟨#[]⟩, 0, 0⟩ : Qr)], by simp; have := HN.out; omega, fun p hp => ?_, ?_⟩
            · rcases List.mem_append.1 hp with h | h
              · exact HLP.out p h
              · simp at h; subst h; exact ⟨Nat.zero_le _, Nat.zero_le _⟩
            · rw [flatQ_snoc, List.length_append, HN.out]
              exact hown9
          have C9 := hide (C6.out.kept (fun i hi => hb9.block i (by omega)))
          have G9 := hide (grown_low G6.out hb9)
          clear hown9 hgrow9 hb9
          go_wp2
          go_roundw
          case rel => exact ⟨k - 1, by omega, by congr 1; omega, O9.out, C9.out.mono (by omega), G9.out⟩
          case measure => simp [intOf]; omega
        · have R6 := hide (HROW5.out.alloc (.cells #[.int .i64 2, .string ⟨#[]⟩, .string ⟨#[]⟩, .int .i64 0, .int .i64 0] 51))
          have G6 := hide (grown_trans G5.out (grown_alloc _ (.cells #[.int .i64 2, .string ⟨#[]⟩, .string ⟨#[]⟩, .int .i64 0, .int .i64 0] 51) _))
          have P6 := hide (PB.new w5 ⟨2, ⟨#[]⟩, ⟨#[]⟩, 0, 0⟩)
          have AL := hide (label_any b _ _ (C5.out.alloc (.cells #[.int .i64 2, .string ⟨#[]⟩, .string ⟨#[]⟩, .int .i64 0, .int .i64 0] 51)) (by omega))
          go_wp2_with fail
          refine AL.out.mono ?_
          rintro e w7 ⟨s1, s2, rfl, hs12, hc7, hg7⟩
          have P7 := P6.out.grown hg7 (by omega)
          have c0 : w7.cell? ⟨w5.heap.size, 0, none⟩ = some (.int .i64 2) := Lib.cell_of_heap P7 0
          have c1 : w7.cell? ⟨w5.heap.size, 1, none⟩ = some (.string ⟨#[]⟩) := Lib.cell_of_heap P7 1
          have c2 : w7.cell? ⟨w5.heap.size, 2, none⟩ = some (.string ⟨#[]⟩) := Lib.cell_of_heap P7 2
          have c3 : w7.cell? ⟨w5.heap.size, 3, none⟩ = some (.int .i64 0) := Lib.cell_of_heap P7 3
          have c4 : w7.cell? ⟨w5.heap.size, 4, none⟩ = some (.int .i64 0) := Lib.cell_of_heap P7 4
          have f1 := Lib.frozen_of_heap P7 1
          have f2 := Lib.frozen_of_heap P7 2
          have hbs := ((Below.refl w.heap.size w7).setCell (p := ⟨w5.heap.size, 1, none⟩) hsz5 (.string s1)).setCell (p := ⟨w5.heap.size, 2, none⟩) hsz5 (.string s2)
          have R7 := hide (ownsRow_setCell_other (ownsRow_setCell_other (own_grown4 R6.out hg7 hbw) (a := ⟨w5.heap.size, 1, none⟩) HNE.out (.string s1)) (a := ⟨w5.heap.size, 2, none⟩) HNE.out (.string s2))
          have G7 := hide (grown_low (grown_trans G6.out hg7) hbs)
          have C7 := hide (hc7.kept (fun i hi => hbs.block i (by omega)))
          have hsz7 := G7.out.size
          have hzz7 : w.heap.size ≤ w7.heap.size := by simpa using hsz7
          clear hc7 hg7 hbs R6 G6 P6 AL P7
          go_wp2_with (first
            | (at_builtin; refine wpList_append_own _ rfl _ _ 36 rfl w.heap.size 51 i1 (.agg #[.int .i64 0, .string ByteArray.empty, .string ByteArray.empty, .int .i64 0, .int .i64 0]) 5 56 Try.underlying36 hi1 hy0 hy1 hy2 rfl (by decide) _ _ _ rfl (R7.out.alloc _) ⟨w7.heap.size, 0, none⟩ 1 1 (cq (⟨2, s1, s2, 0, 0⟩ : Qr)) rfl rfl (cell_five_of _ _ (⟨2, s1, s2, 0, 0⟩ : Qr) _ (by simp [World.setCell])) (cq_one (⟨2, s1, s2, 0, 0⟩ : Qr)) (by unfold maxLen; omega) (by omega) (by simp; omega) ?_)
            | go_in)
          intro v9 w9 hown9 hgrow9 _
          have hb9 : Below w.heap.size ((w7.setCell ⟨w5.heap.size, 1, none⟩ (.string s1)).setCell ⟨w5.heap.size, 2, none⟩ (.string s2)) w9 := ((Below.refl _ _).alloc hsz7 _).grown hgrow9 (by simp; omega) (fun g hg => (R7.out.lt g hg).1)
          have O9 : Hid (OwnQ w9 w.heap.size v9 (21 - (k - 1))) := by
            refine hide ⟨l ++ [(⟨2, s1, s2, 0, 0⟩ : Qr)], by simp; have := HN.out; omega, fun p hp => ?_, ?_⟩
            · rcases List.mem_append.1 hp with h | h
              · exact HLP.out p h
              · simp at h; subst h; exact hs12
            · rw [flatQ_snoc, List.length_append, HN.out]
              exact hown9
          have C9 := hide (C7.out.kept (fun i hi => hb9.block i (by omega)))
          have G9 := hide (grown_low G7.out hb9)
          clear hown9 hgrow9 hb9
          go_wp2
          go_roundw
          case rel => exact ⟨k - 1, by omega, by congr 1; omega, O9.out, C9.out.mono (by omega), G9.out⟩
          case measure => simp [intOf]; omega
        · have R6 := hide (HROW5.out.alloc (.cells #[.int .i64 3, .string ⟨#[]⟩, .string ⟨#[]⟩, .int .i64 0, .int .i64 0] 51))
          have G6 := hide (grown_trans G5.out (grown_alloc _ (.cells #[.int .i64 3, .string ⟨#[]⟩, .string ⟨#[]⟩, .int .i64 0, .int .i64 0] 51) _))
          have P6 := hide (PB.new w5 ⟨3, ⟨#[]⟩, ⟨#[]⟩, 0, 0⟩)
          have AL := hide (pick_any b _ (n : Int) _ (C5.out.alloc (.cells #[.int .i64 3, .string ⟨#[]⟩, .string ⟨#[]⟩, .int .i64 0, .int .i64 0] 51)) (by omega) (by omega) (by omega))
          go_wp2_with fail
          refine AL.out.mono ?_
          rintro e w7 ⟨y, rfl, hy0', hy1', _, hc7, hg7⟩
          have P7 := P6.out.grown hg7 (by omega)
          have c3 : w7.cell? ⟨w5.heap.size, 3, none⟩ = some (.int .i64 0) := Lib.cell_of_heap P7 3
          have f3 := Lib.frozen_of_heap P7 3
          have hbs := (Below.refl w.heap.size w7).setCell (p := ⟨w5.heap.size, 3, none⟩) hsz5 (.int .i64 y)
          have R7 := hide (ownsRow_setCell_other (own_grown4 R6.out hg7 hbw) (a := ⟨w5.heap.size, 3, none⟩) HNE.out (.int .i64 y))
          have G7 := hide (grown_low (grown_trans G6.out hg7) hbs)
          have C7 := hide (hc7.kept (fun i hi => hbs.block i (by omega)))
          have PP7 := hide (P7.setA y)
          clear hc7 hg7 hbs R6 G6 P6 AL P7
          go_wp2_with fail
          refine (pick_any b _ (n : Int) _ C7.out (by omega) (by omega) (by omega)).mono ?_
          rintro e w8 ⟨z, rfl, hz0', hz1', _, hc8, hg8⟩
          have P8 := PP7.out.grown hg8 (by omega)
          clear c3 f3
          have c0 : w8.cell? ⟨w5.heap.size, 0, none⟩ = some (.int .i64 3) := Lib.cell_of_heap P8 0
          have c1 : w8.cell? ⟨w5.heap.size, 1, none⟩ = some (.string ⟨#[]⟩) := Lib.cell_of_heap P8 1
          have c2 : w8.cell? ⟨w5.heap.size, 2, none⟩ = some (.string ⟨#[]⟩) := Lib.cell_of_heap P8 2
          have c3 : w8.cell? ⟨w5.heap.size, 3, none⟩ = some (.int .i64 y) := Lib.cell_of_heap P8 3
          have c4 : w8.cell? ⟨w5.heap.size, 4, none⟩ = some (.int .i64 0) := Lib.cell_of_heap P8 4
          have f4 := Lib.frozen_of_heap P8 4
          have hbs := (Below.refl w.heap.size w8).setCell (p := ⟨w5.heap.size, 4, none⟩) hsz5 (.int .i64 z)
          have R8 := hide (ownsRow_setCell_other (own_grown4 R7.out hg8 hbw) (a := ⟨w5.heap.size, 4, none⟩) HNE.out (.int .i64 z))
          have G8 := hide (grown_low (grown_trans G7.out hg8) hbs)
          have C8 := hide (hc8.kept (fun i hi => hbs.block i (by omega)))
          have hsz8 := G8.out.size
          have hzz8 : w.heap.size ≤ w8.heap.size := by simpa using hsz8
          clear hc8 hg8 hbs R7 G7 PP7 P8 C7
          go_wp2_with (first
            | (at_builtin; refine wpList_append_own _ rfl _ _ 36 rfl w.heap.size 51 i1 (.agg #[.int .i64 0, .string ByteArray.empty, .string ByteArray.empty, .int .i64 0, .int .i64 0]) 5 56 Try.underlying36 hi1 hy0 hy1 hy2 rfl (by decide) _ _ _ rfl (R8.out.alloc _) ⟨w8.heap.size, 0, none⟩ 1 1 (cq (⟨3, ⟨#[]⟩, ⟨#[]⟩, y, z⟩ : Qr)) rfl rfl (cell_five_of _ _ (⟨3, ⟨#[]⟩, ⟨#[]⟩, y, z⟩ : Qr) _ (by simp [World.setCell])) (cq_one (⟨3, ⟨#[]⟩, ⟨#[]⟩, y, z⟩ : Qr)) (by unfold maxLen; omega) (by omega) (by simp; omega) ?_)
            | go_in)
          intro v9 w9 hown9 hgrow9 _
          have hb9 : Below w.heap.size (w8.setCell ⟨w5.heap.size, 4, none⟩ (.int .i64 z)) w9 := ((Below.refl _ _).alloc hsz8 _).grown hgrow9 (by simp; omega) (fun g hg => (R8.out.lt g hg).1)
          have O9 : Hid (OwnQ w9 w.heap.size v9 (21 - (k - 1))) := by
            refine hide ⟨l ++ [(⟨3, ⟨#[]⟩, ⟨#[]⟩, y, z⟩ : Qr)], by simp; have := HN.out; omega, fun p hp => ?_, ?_⟩
            · rcases List.mem_append.1 hp with h | h
              · exact HLP.out p h
              · simp at h; subst h; exact ⟨Nat.zero_le _, Nat.zero_le _⟩
            · rw [flatQ_snoc, List.length_append, HN.out]
              exact hown9
          have C9 := hide (C8.out.kept (fun i hi => hb9.block i (by omega)))
          have G9 := hide (grown_low G8.out hb9)
          clear hown9 hgrow9 hb9
          go_wp2
          go_roundw
          case rel => exact ⟨k - 1, by omega, by congr 1; omega, O9.out, C9.out.mono (by omega), G9.out⟩
          case measure => simp [intOf]; omega
        · have R6 := hide (HROW5.out.alloc (.cells #[.int .i64 4, .string ⟨#[]⟩, .string ⟨#[]⟩, .int .i64 0, .int .i64 0] 51))
          have G6 := hide (grown_trans G5.out (grown_alloc _ (.cells #[.int .i64 4, .string ⟨#[]⟩, .string ⟨#[]⟩, .int .i64 0, .int .i64 0] 51) _))
          have P6 := hide (PB.new w5 ⟨4, ⟨#[]⟩, ⟨#[]⟩, 0, 0⟩)
          have AL := hide (pick_any b _ (n : Int) _ (C5.out.alloc (.cells #[.int .i64 4, .string ⟨#[]⟩, .string ⟨#[]⟩, .int .i64 0, .int .i64 0] 51)) (by omega) (by omega) (by omega))
          go_wp2_with fail
          refine AL.out.mono ?_
          rintro e w7 ⟨y, rfl, hy0', hy1', _, hc7, hg7⟩
          have P7 := P6.out.grown hg7 (by omega)
          have c3 : w7.cell? ⟨w5.heap.size, 3, none⟩ = some (.int .i64 0) := Lib.cell_of_heap P7 3
          have f3 := Lib.frozen_of_heap P7 3
          have hbs := (Below.refl w.heap.size w7).setCell (p := ⟨w5.heap.size, 3, none⟩) hsz5 (.int .i64 y)
          have R7 := hide (ownsRow_setCell_other (own_grown4 R6.out hg7 hbw) (a := ⟨w5.heap.size, 3, none⟩) HNE.out (.int .i64 y))
          have G7 := hide (grown_low (grown_trans G6.out hg7) hbs)
          have C7 := hide (hc7.kept (fun i hi => hbs.block i (by omega)))
          have PP7 := hide (P7.setA y)
          clear hc7 hg7 hbs R6 G6 P6 AL P7
          go_wp2_with fail
          refine (pick_any b _ (n : Int) _ C7.out (by omega) (by omega) (by omega)).mono ?_
          rintro e w8 ⟨z, rfl, hz0', hz1', _, hc8, hg8⟩
          have P8 := PP7.out.grown hg8 (by omega)
          clear c3 f3
          have c0 : w8.cell? ⟨w5.heap.size, 0, none⟩ = some (.int .i64 4) := Lib.cell_of_heap P8 0
          have c1 : w8.cell? ⟨w5.heap.size, 1, none⟩ = some (.string ⟨#[]⟩) := Lib.cell_of_heap P8 1
          have c2 : w8.cell? ⟨w5.heap.size, 2, none⟩ = some (.string ⟨#[]⟩) := Lib.cell_of_heap P8 2
          have c3 : w8.cell? ⟨w5.heap.size, 3, none⟩ = some (.int .i64 y) := Lib.cell_of_heap P8 3
          have c4 : w8.cell? ⟨w5.heap.size, 4, none⟩ = some (.int .i64 0) := Lib.cell_of_heap P8 4
          have f4 := Lib.frozen_of_heap P8 4
          have hbs := (Below.refl w.heap.size w8).setCell (p := ⟨w5.heap.size, 4, none⟩) hsz5 (.int .i64 z)
          have R8 := hide (ownsRow_setCell_other (own_grown4 R7.out hg8 hbw) (a := ⟨w5.heap.size, 4, none⟩) HNE.out (.int .i64 z))
          have G8 := hide (grown_low (grown_trans G7.out hg8) hbs)
          have C8 := hide (hc8.kept (fun i hi => hbs.block i (by omega)))
          have hsz8 := G8.out.size
          have hzz8 : w.heap.size ≤ w8.heap.size := by simpa using hsz8
          clear hc8 hg8 hbs R7 G7 PP7 P8 C7
          go_wp2_with (first
            | (at_builtin; refine wpList_append_own _ rfl _ _ 36 rfl w.heap.size 51 i1 (.agg #[.int .i64 0, .string ByteArray.empty, .string ByteArray.empty, .int .i64 0, .int .i64 0]) 5 56 Try.underlying36 hi1 hy0 hy1 hy2 rfl (by decide) _ _ _ rfl (R8.out.alloc _) ⟨w8.heap.size, 0, none⟩ 1 1 (cq (⟨4, ⟨#[]⟩, ⟨#[]⟩, y, z⟩ : Qr)) rfl rfl (cell_five_of _ _ (⟨4, ⟨#[]⟩, ⟨#[]⟩, y, z⟩ : Qr) _ (by simp [World.setCell])) (cq_one (⟨4, ⟨#[]⟩, ⟨#[]⟩, y, z⟩ : Qr)) (by unfold maxLen; omega) (by omega) (by simp; omega) ?_)
            | go_in)
          intro v9 w9 hown9 hgrow9 _
          have hb9 : Below w.heap.size (w8.setCell ⟨w5.heap.size, 4, none⟩ (.int .i64 z)) w9 := ((Below.refl _ _).alloc hsz8 _).grown hgrow9 (by simp; omega) (fun g hg => (R8.out.lt g hg).1)
          have O9 : Hid (OwnQ w9 w.heap.size v9 (21 - (k - 1))) := by
            refine hide ⟨l ++ [(⟨4, ⟨#[]⟩, ⟨#[]⟩, y, z⟩ : Qr)], by simp; have := HN.out; omega, fun p hp => ?_, ?_⟩
            · rcases List.mem_append.1 hp with h | h
              · exact HLP.out p h
              · simp at h; subst h; exact ⟨Nat.zero_le _, Nat.zero_le _⟩
            · rw [flatQ_snoc, List.length_append, HN.out]
              exact hown9
          have C9 := hide (C8.out.kept (fun i hi => hb9.block i (by omega)))
          have G9 := hide (grown_low G8.out hb9)
          clear hown9 hgrow9 hb9
          go_wp2
          go_roundw
          case rel => exact ⟨k - 1, by omega, by congr 1; omega, O9.out, C9.out.mono (by omega), G9.out⟩
          case measure => simp [intOf]; omega
        · have R6 := hide (HROW5.out.alloc (.cells #[.int .i64 5, .string ⟨#[]⟩, .string ⟨#[]⟩, .int .i64 0, .int .i64 0] 51))
          have G6 := hide (grown_trans G5.out (grown_alloc _ (.cells #[.int .i64 5, .string ⟨#[]⟩, .string ⟨#[]⟩, .int .i64 0, .int .i64 0] 51) _))
          have P6 := hide (PB.new w5 ⟨5, ⟨#[]⟩, ⟨#[]⟩, 0, 0⟩)
          have AL := hide (pick_any b _ (n : Int) _ (C5.out.alloc (.cells #[.int .i64 5, .string ⟨#[]⟩, .string ⟨#[]⟩, .int .i64 0, .int .i64 0] 51)) (by omega) (by omega) (by omega))
          go_wp2_with fail
          refine AL.out.mono ?_
          rintro e w7 ⟨y, rfl, hy0', hy1', _, hc7, hg7⟩
          have P7 := P6.out.grown hg7 (by omega)
          have c0 : w7.cell? ⟨w5.heap.size, 0, none⟩ = some (.int .i64 5) := Lib.cell_of_heap P7 0
          have c1 : w7.cell? ⟨w5.heap.size, 1, none⟩ = some (.string ⟨#[]⟩) := Lib.cell_of_heap P7 1
          have c2 : w7.cell? ⟨w5.heap.size, 2, none⟩ = some (.string ⟨#[]⟩) := Lib.cell_of_heap P7 2
          have c3 : w7.cell? ⟨w5.heap.size, 3, none⟩ = some (.int .i64 0) := Lib.cell_of_heap P7 3
          have c4 : w7.cell? ⟨w5.heap.size, 4, none⟩ = some (.int .i64 0) := Lib.cell_of_heap P7 4
          have f3 := Lib.frozen_of_heap P7 3
          have hbs := (Below.refl w.heap.size w7).setCell (p := ⟨w5.heap.size, 3, none⟩) hsz5 (.int .i64 y)
          have R7 := hide (ownsRow_setCell_other (own_grown4 R6.out hg7 hbw) (a := ⟨w5.heap.size, 3, none⟩) HNE.out (.int .i64 y))
          have G7 := hide (grown_low (grown_trans G6.out hg7) hbs)
          have C7 := hide (hc7.kept (fun i hi => hbs.block i (by omega)))
          have hsz7 := G7.out.size
          have hzz7 : w.heap.size ≤ w7.heap.size := by simpa using hsz7
          clear hc7 hg7 hbs R6 G6 P6 AL P7
          go_wp2_with (first
            | (at_builtin; refine wpList_append_own _ rfl _ _ 36 rfl w.heap.size 51 i1 (.agg #[.int .i64 0, .string ByteArray.empty, .string ByteArray.empty, .int .i64 0, .int .i64 0]) 5 56 Try.underlying36 hi1 hy0 hy1 hy2 rfl (by decide) _ _ _ rfl (R7.out.alloc _) ⟨w7.heap.size, 0, none⟩ 1 1 (cq (⟨5, ⟨#[]⟩, ⟨#[]⟩, y, 0⟩ : Qr)) rfl rfl (cell_five_of _ _ (⟨5, ⟨#[]⟩, ⟨#[]⟩, y, 0⟩ : Qr) _ (by simp [World.setCell])) (cq_one (⟨5, ⟨#[]⟩, ⟨#[]⟩, y, 0⟩ : Qr)) (by unfold maxLen; omega) (by omega) (by simp; omega) ?_)
            | go_in)
          intro v9 w9 hown9 hgrow9 _
          have hb9 : Below w.heap.size (w7.setCell ⟨w5.heap.size, 3, none⟩ (.int .i64 y)) w9 := ((Below.refl _ _).alloc hsz7 _).grown hgrow9 (by simp; omega) (fun g hg => (R7.out.lt g hg).1)
          have O9 : Hid (OwnQ w9 w.heap.size v9 (21 - (k - 1))) := by
            refine hide ⟨l ++ [(⟨5, ⟨#[]⟩, ⟨#[]⟩, y, 0⟩ : Qr)], by simp; have := HN.out; omega, fun p hp => ?_, ?_⟩
            · rcases List.mem_append.1 hp with h | h
              · exact HLP.out p h
              · simp at h; subst h; exact ⟨Nat.zero_le _, Nat.zero_le _⟩
            · rw [flatQ_snoc, List.length_append, HN.out]
              exact hown9
          have C9 := hide (C7.out.kept (fun i hi => hb9.block i (by omega)))
          have G9 := hide (grown_low G7.out hb9)
          clear hown9 hgrow9 hb9
          go_wp2
          go_roundw
          case rel => exact ⟨k - 1, by omega, by congr 1; omega, O9.out, C9.out.mono (by omega), G9.out⟩
          case measure => simp [intOf]; omega
      · obtain ⟨g, ocap', e', hcc⟩ : ∃ g c, Value.slice oa n ocap = .slice (some ⟨g, 0, none⟩) n c ∧ n ≤ c := by
          rcases HROW.out.2 with ⟨_, h0⟩ | ⟨g, cap, cur, hv, _, _, hc, _⟩
          · omega
          · exact ⟨g, cap, hv, hc⟩
        cases e'
        have hgw := (HROW.out.lt g rfl).1
        go_wp2_with fail
        refine (one_any b _ 20 _ HCC.out (by omega) (by omega) (by omega)).mono ?_
        rintro e w5 ⟨t5, rfl, hc5, hg5⟩
        have O5 := hide (own_grown4 HROW.out hg5 hbw)
        have C5 := hide hc5
        have G5 := hide (grown_trans HG.out hg5)
        clear hc5 hg5 HCC HG HROW
        cases t5 with
        | true =>
          go_wp2_with fail
          refine (pick_any b _ (n : Int) _ C5.out (by omega) (by omega) (by omega)).mono ?_
          rintro e w6 ⟨x6, rfl, hx6, _, hx6', hc6, hg6⟩
          have hx6'' := hx6' (by omega)
          obtain ⟨j, rfl⟩ : ∃ j : Nat, x6 = (j : Int) := ⟨x6.toNat, by omega⟩
          have O6 := hide (own_grown4 O5.out hg6 hbw)
          have C6 := hide hc6
          have G6 := hide (grown_trans G5.out hg6)
          clear hc6 hg6 O5 G5 C5 hx6'
          go_wp2_with fail
          refine (pick_any b _ 9 _ C6.out (by omega) (by omega) (by omega)).mono ?_
          rintro e w8 ⟨y8, rfl, hy8, hy8', _, hc8, hg8⟩
          have hown8 := own_grown4 O6.out hg8 hbw
          have hfl : (flatQ l).length = n * 5 := by rw [flatQ_len, HN.out]
          have hcl := hown8.cellAt (j * 5 + 3) (by omega)
          have hfr := hown8.frozenAt (j * 5 + 3)
          obtain ⟨u, hu⟩ : ∃ u, w8.cell? ⟨g, j * 5 + 3, none⟩ = some u := ⟨_, hcl.trans (List.getElem?_eq_getElem (by omega))⟩
          have hs1 := hown8.stored (j * 5 + 3) (.int .i64 (y8 - 1))
          have hbs := (Below.refl w.heap.size w8).setCell (p := ⟨g, j * 5 + 3, none⟩) hgw (.int .i64 (y8 - 1))
          have O9 : Hid (OwnQ (w8.setCell ⟨g, j * 5 + 3, none⟩ (.int .i64 (y8 - 1))) w.heap.size (.slice (some ⟨g, 0, none⟩) n ocap) 21) := by
            refine hide ⟨l.set j { l.getD j eQ with a := y8 - 1 }, by rw [List.length_set, HN.out]; omega, fun p hp => ?_, ?_⟩
            · rcases List.mem_or_eq_of_mem_set hp with h | h
              · exact HLP.out p h
              · subst h
                have hj : j < l.length := by rw [HN.out]; omega
                have e : l.getD j eQ = l[j] := by simp [List.getD, List.getElem?_eq_getElem hj]
                show (l.getD j eQ).n.size ≤ 20 ∧ (l.getD j eQ).v.size ≤ 20
                rw [e]
                exact HLP.out _ (List.getElem_mem hj)
            · rw [List.length_set, HN.out, flatQ_setA l j _ (by rw [HN.out]; omega)]
              exact hs1.1
          have C9 := hide (hc8.kept (fun i hi => hbs.block i (by omega)))
          have G9 := hide (grown_low (grown_trans G6.out hg8) hbs)
          have hjI : (j : Int) < (n : Int) := by omega
          clear hown8 hfl hcl hs1 hbs hc8 hg8 O6 G6 C6
          go_wp2
          go_ret
          exact ⟨_, rfl, O9.out, C9.out.mono (by omega), G9.out⟩
        | false =>
          go_wp2
          go_ret
          exact ⟨_, rfl, ⟨l, by rw [HN.out]; omega, HLP.out, by rw [HN.out]; exact O5.out⟩, C5.out.mono (by omega), G5.out⟩
end Go.Proofs.Ythicdnkngpiccab.L4
