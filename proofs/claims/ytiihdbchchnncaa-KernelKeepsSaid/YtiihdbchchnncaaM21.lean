import Derived.Test.YtiihdbchchnncaaM5
import Derived.Test.YtiihdbchchnncaaM12
import Derived.Test.YtiihdbchchnncaaM14
import Derived.Test.YtiihdbchchnncaaM19
import Derived.Test.YtiihdbchchnncaaM20
section
namespace Go.Proofs.Ytiihdbchchnncaa
open Go Go.RowKit

/-- A tree that hangs on some blocks alone. -/
def TreeFar (P : Nat → Prop) (w : World) (t : TreeM) : Prop := ∀ W : World, (∀ k, P k → k < w.heap.size → W.heap[k]? = w.heap[k]?) → TreeIn W t
theorem TreeFar.to {P Q : Nat → Prop} {w W : World} {t : TreeM} (h : TreeFar P w t) (hP : ∀ k, P k → k < w.heap.size → Q k ∧ k < W.heap.size ∧ W.heap[k]? = w.heap[k]?) : TreeFar Q W t :=
  fun V hV => h V fun k hk hl => by obtain ⟨h1, h2, h3⟩ := hP k hk hl; rw [hV k h1 h2, h3]
theorem TreeFar.tin {P : Nat → Prop} {w : World} {t : TreeM} (h : TreeFar P w t) : TreeIn w t := h w fun _ _ _ => rfl
theorem Try.info51 : (Try.prog.info? 51).map (fun i => (i.zero, i.size, i.bytes)) = some (some (.agg #[.int .i64 0, .int .u8 0, .slice none 0 0]), 3, 40) := by kernel_rfl
theorem treeC_size (t : TreeM) : (treeC t).size = 3 := by obtain ⟨p, b, ka, kc, kids⟩ := t; rfl
theorem tree_one (t : TreeM) : ∀ u ∈ (treeC t).toList, u.oneCell' = true := by obtain ⟨p, b, ka, kc, kids⟩ := t; simp [treeC, Value.oneCell']
theorem own_lt {w : World} {base e size : Nat} {v : Value} {n : Nat} {xs : List Value} (h : w.ownsRow base e size v n xs) {g : Nat} (hg : v.ownBlock = some g) : g < w.heap.size ∧ base ≤ g := by
  rcases h.2 with ⟨rfl, _⟩ | ⟨g', cap, cur, rfl, hb, hh, _⟩
  · cases hg
  · have : g' = g := by simpa [Value.ownBlock] using hg
    subst this
    exact ⟨(Array.getElem?_eq_some_iff.1 hh).1, hb⟩

/-- What turned's loop holds. -/
structure TU (κ : List Nat) (d : Nat) (kids : List TreeM) (w : World) (X0 X1 : Array Value) (v : Value) (k : Nat) (ks : List TreeM) (wr : World) : Prop where
  own : wr.ownsRow (w.heap.size + 1 + 1) 51 3 v k (cellsL treeC ks)
  len : ks.length = k
  turn : ∀ (i : Nat) (x y : TreeM), kids[i]? = some x → ks[i]? = some y → TurnB κ d x y
  far : ∀ y, y ∈ ks → TreeFar (fun j => w.heap.size + 1 + 1 ≤ j ∧ some j ≠ v.ownBlock) wr y
  b0 : Blk wr w.heap.size 51 X0
  b1 : Blk wr (w.heap.size + 1) 51 X1
  b : Below w.heap.size w wr
  lt : w.heap.size + 1 + 1 ≤ wr.heap.size
theorem TU.push {κ : List Nat} {d : Nat} {kids : List TreeM} {w wr w3 w5 : World} {X0 X1 : Array Value} {v : Value} {k : Nat} {ks : List TreeM} (h : TU κ d kids w X0 X1 v k ks wr) (y : TreeM) (hB : Below wr.heap.size wr w3)
    (hf : TreeFar (fun j => wr.heap.size ≤ j) w3 y) (ht : ∀ x, kids[k]? = some x → TurnB κ d x y) (g cap : Nat) (X : Array Value)
    (hown : w5.ownsRow (w.heap.size + 1 + 1) 51 3 (.slice (some ⟨g, 0, none⟩) (k + 1) cap) (k + 1) (cellsL treeC ks ++ (treeC y).toList)) (hgrow : (w3.alloc (.cells X 51)).grownBy w5 v.ownBlock) (hat : v.ownBlock = some g ∨ g = w3.heap.size + 1) :
    TU κ d kids w X0 X1 (.slice (some ⟨g, 0, none⟩) (k + 1) cap) (k + 1) (ks ++ [y]) w5 := by
  have hlt := h.lt
  have hs := hB.size
  have hs5 := hgrow.size
  rw [World.size_alloc] at hs5
  have low : ∀ j, j < w3.heap.size → some j ≠ v.ownBlock → w5.heap[j]? = w3.heap[j]? := fun j hj hne => by
    rw [hgrow.block j (by rw [World.size_alloc]; omega) hne]
    exact (World.grownBy_alloc w3 (.cells X 51) none).block j hj (by simp)
  have hlow : ∀ j, j < w.heap.size + 1 + 1 → some j ≠ v.ownBlock := fun j hj e => by
    have := (own_lt h.own e.symm).2; omega
  refine ⟨by rw [cellsL_snoc]; exact hown, by simp [h.len], fun i x z hx hz => ?_, fun z hz => ?_, ?_, ?_, ?_, by omega⟩
  · by_cases e : i < ks.length
    · rw [List.getElem?_append_left e] at hz; exact h.turn i x z hx hz
    · have : i = k := by have := (List.getElem?_eq_some_iff.1 hz).1; rw [List.length_append, List.length_singleton, h.len] at this; rw [h.len] at e; omega
      subst this
      rw [← h.len, List.getElem?_concat_length] at hz
      cases hz
      exact ht x hx
  · rcases List.mem_append.1 hz with hz | hz
    · refine (h.far z hz).to fun j ⟨h1, h2⟩ hj => ⟨⟨h1, fun e => ?_⟩, by omega, ?_⟩
      · have e' : j = g := by simpa [Value.ownBlock] using e
        rcases hat with hat | hat
        · exact h2 (by rw [hat, e'])
        · omega
      · rw [low j (by omega) h2, hB.block j hj]
    · simp at hz; subst hz
      refine hf.to fun j h1 hj => ⟨⟨by omega, fun e => ?_⟩, by omega, low j hj fun e => ?_⟩
      · have e' : j = g := by simpa [Value.ownBlock] using e
        rcases hat with hat | hat
        · have := (own_lt h.own hat).1; omega
        · omega
      · have := (own_lt h.own e.symm).1; omega
  · exact (low _ (by omega) (hlow _ (by omega))).trans ((hB.block _ (by omega)).trans h.b0)
  · exact (low _ (by omega) (hlow _ (by omega))).trans ((hB.block _ (by omega)).trans h.b1)
  · exact ((h.b.trans (hB.mono h.b.size)).alloc (by omega) (.cells X 51)).grown hgrow (by rw [World.size_alloc]; omega) fun j ej => by have := (own_lt h.own ej).2; omega
theorem TU.fin {κ : List Nat} {d : Nat} {kids : List TreeM} {w wr WF : World} {X0 X1 : Array Value} {va : Option Addr} {n vc : Nat} {ks : List TreeM} (h : TU κ d kids w X0 X1 (.slice va n vc) n ks wr)
    (hW : ∀ j, w.heap.size + 1 + 1 ≤ j → WF.heap[j]? = wr.heap[j]?) (hs : WF.heap.size = wr.heap.size) (pp nb : Int) : TreeFar (fun j => w.heap.size ≤ j) WF (.node pp nb va vc ks) := fun V hV => by
  rw [tree_in]
  have hV' : ∀ j, w.heap.size + 1 + 1 ≤ j → j < wr.heap.size → V.heap[j]? = wr.heap[j]? := fun j h1 h2 => (hV j (by omega) (by omega)).trans (hW j h1)
  have hown : V.ownsRow (w.heap.size + 1 + 1) 51 3 (.slice va n vc) n (cellsL treeC ks) := own_far h.own (Nat.le_refl _) hV'
  rw [← h.len] at hown
  exact (own_rowS (cs := treeC) treeC_size hown fun y hy => (h.far y hy) V fun j ⟨h1, _⟩ hj => hV' j h1 hj).1
theorem below_box {κ : List Nat} (w : World) (X0 X1 : Array Value) : Blk ((w.alloc (.cells X0 51)).alloc (.cells X1 51)) w.heap.size 51 X0 ∧ Blk ((w.alloc (.cells X0 51)).alloc (.cells X1 51)) (w.heap.size + 1) 51 X1 ∧ Below w.heap.size w ((w.alloc (.cells X0 51)).alloc (.cells X1 51)) ∧ ((w.alloc (.cells X0 51)).alloc (.cells X1 51)).heap.size = w.heap.size + 1 + 1 := by
  have h1 := Blk.new (w.alloc (.cells X0 51)) 51 X1
  rw [World.size_alloc] at h1
  exact ⟨(Blk.new w 51 X0).alloc _, h1, ((Below.refl _ w).alloc (Nat.le_refl _) _).alloc (by simp) _, by simp⟩

set_option maxRecDepth 100000 in
set_option maxHeartbeats 8000000 in
/-- A tree turned. -/
theorem turned_any (κ : List Nat) (ak : Option Addr) (ck : Nat) (d : Nat) : ∀ (t : TreeM) (w : World), TreeIn w t → TFit d t → nestB d t = true → RowInt w ak (κ.map fun k : Nat => (k : Int)) →
    Calls Try.prog 29 #[treeV t, .slice ak κ.length ck] w fun e w' => ∃ t', e = .returned (treeV t') ∧ TurnB κ d t t' ∧ TreeFar (fun j => w.heap.size ≤ j) w' t' ∧ Below w.heap.size w w' := by
  obtain ⟨i51, ti51, tz51, ts51, tb51⟩ := info_parts Try.info51
  induction d with
  | zero => intro t w _ _ h; unfold nestB at h; cases h
  | succ d ih =>
  intro t w ht hfit hnest hrow
  obtain ⟨p, b, ka, kc, kids⟩ := t
  rw [tree_in] at ht
  obtain ⟨hlen, ⟨nb, rfl, hnb⟩, hkf⟩ := hfit
  have HNe := Lib.hid (List.all_eq_true.1 (show kids.all (nestB d) = true from hnest))
  have HKf := Lib.hid hkf
  have HIh := Lib.hid ih
  have HT := Lib.hid ht
  have HRow := Lib.hid hrow
  obtain ⟨k0, k1, kB, ks⟩ := below_box (κ := κ) w #[.int .i64 p, .int .u8 (nb : Nat), .slice ka kids.length kc] #[.int .i64 0, .int .u8 0, .slice none 0 0]
  obtain ⟨W1, hW1⟩ : ∃ W, W = (w.alloc (.cells #[.int .i64 p, .int .u8 (nb : Nat), .slice ka kids.length kc] 51)).alloc (.cells #[.int .i64 0, .int .u8 0, .slice none 0 0] 51) := ⟨_, rfl⟩
  rw [← hW1] at k0 k1 kB ks
  have K0 := Lib.hid k0
  have K1 := Lib.hid k1
  have KB := Lib.hid kB
  have KS := Lib.hid ks
  have HW1 := Lib.hid hW1
  obtain ⟨pp, hpp⟩ : ∃ pp, pp = tnum κ p := ⟨_, rfl⟩
  have HPP := Lib.hid hpp
  obtain ⟨n, hn⟩ : ∃ n, n = kids.length := ⟨_, rfl⟩
  have HNk := Lib.hid hn
  have c0 := k0.cell 0
  have c2 := k0.cell 2
  simp only [List.getElem?_toArray, List.getElem?_cons_zero, List.getElem?_cons_succ] at c0 c2
  have f0 := k0.frozen 0
  have l0 := k0.lt
  clear ih ht hkf hnest hrow k0 k1 kB ks hW1 hpp
  unfold treeV treeC
  dsimp only
  rw [← hn] at hlen c2 K0 HW1 ⊢
  clear hn
  have HEnter : Hid (∀ W2 : World, Blk W2 w.heap.size 51 #[.int .i64 pp, .int .u8 (nb : Nat), .slice ka n kc] → Blk W2 (w.heap.size + 1) 51 #[.int .i64 0, .int .u8 0, .slice none 0 0] → Below w.heap.size w W2 → W2.heap.size = w.heap.size + 1 + 1 →
      TU κ d kids w #[.int .i64 pp, .int .u8 (nb : Nat), .slice ka n kc] #[.int .i64 0, .int .u8 0, .slice none 0 0] (.slice none 0 0) 0 [] W2) := Lib.hid fun W2 h0 h1 h2 h3 =>
    ⟨World.ownsRow_nil _ _ _ _, rfl, fun i x y _ h => by simp at h, fun y h => by simp at h, h0, h1, h2, by omega⟩
  by_cases hp0 : 0 ≤ p
  · by_cases hp1 : p < κ.length
    · obtain ⟨m, rfl⟩ : ∃ m : Nat, p = m := ⟨p.toNat, by omega⟩
      have hmk : m < κ.length := by omega
      obtain ⟨bk, ok, ek, hbk, hck, _⟩ := HRow.out m (κ[m] : Int) (by rw [List.getElem?_map, List.getElem?_eq_getElem hmk]; rfl)
      subst ek
      have ck1 := Int_at (hck.below KB.out hbk)
      rw [Nat.mul_one] at ck1
      have lbk : bk < W1.heap.size := Nat.lt_of_lt_of_le hbk KB.out.size
      have epp : ((κ[m] : Nat) : Int) = pp := by
        rw [HPP.out]; unfold tnum
        rw [if_pos ⟨by omega, by omega⟩, Int.toNat_natCast, List.getD_eq_getElem?_getD, List.getElem?_eq_getElem hmk]; rfl
      rw [epp] at ck1
      have d0 : decide ((0 : Int) ≤ (m : Int)) = true := by simp
      have d1 : (m : Int) < (κ.length : Int) := by omega
      have K2 := Lib.hid (HEnter.out (W1.setCell ⟨w.heap.size, 0, none⟩ (.int .i64 pp)) (by have h := K0.out.set 0 (.int .i64 pp); simpa using h) (K1.out.other (a := ⟨w.heap.size, 0, none⟩) (by show w.heap.size + 1 ≠ w.heap.size; omega) _) (KB.out.setCell (p := ⟨w.heap.size, 0, none⟩) (Nat.le_refl _) _) (by rw [World.size_setCell]; exact KS.out))
      clear epp hck hbk hp0 hp1 KS
      go_enter Try.func29, Try.ntmps29
      go_upto_region 2 with fail
      rw [← HW1.out]
      go_wp2_with fail
      clear ck1 lbk d0 d1
      clear K0 K1 KB HEnter HW1 c0 f0 l0
      go_loopw [5, 6] (fun v5 i wr => ∃ (k : Nat) (ks : List TreeM) (v : Value), v5 = v ∧ i = .int .i64 k ∧ k ≤ n ∧ Hid (TU κ d kids w #[.int .i64 pp, .int .u8 (nb : Nat), .slice ka n kc] #[.int .i64 0, .int .u8 0, .slice none 0 0] v k ks wr)) (fun _ i _ => n - (intOf i).toNat)
      case atStart => exact ⟨0, [], _, rfl, rfl, Nat.zero_le _, K2⟩
      case round =>
        clear K2 c2
        obtain ⟨k, ks, v, hv, rfl, hk, K⟩ := hrel
        obtain rfl := hv.symm
        have c2 := K.out.b0.cell 2
        simp only [List.getElem?_toArray, List.getElem?_cons_zero, List.getElem?_cons_succ] at c2
        have l0 := K.out.b0.lt
        by_cases hlt : k < n
        · obtain ⟨x, hx⟩ : ∃ x, kids[k]? = some x := ⟨_, List.getElem?_eq_getElem (by rw [← HNk.out]; exact hlt)⟩
          obtain ⟨b1, o1, e1, hb1, hc1, hi1⟩ := HT.out k x hx
          subst e1
          have n1 : (k : Int) < (n : Int) := by omega
          have hxm := List.mem_of_getElem? hx
          have lb1 : b1 < wr.heap.size := Nat.lt_of_lt_of_le hb1 K.out.b.size
          have hcx := hc1.below K.out.b hb1
          have HC := Lib.hid (HIh.out x wr (TreeIn.below K.out.b x hi1) (HKf.out x hxm) (HNe.out x hxm) (RowOf.belowN HRow.out K.out.b))
          have HX : Hid (∀ y, TurnB κ d x y → ∀ x', kids[k]? = some x' → TurnB κ d x' y) := Lib.hid fun y h x' h' => by rw [hx] at h'; cases h'; exact h
          have hlo := K.out.lt
          clear hx hxm hc1 hi1
          obtain ⟨xp, xb, xa, xc, xk⟩ := x
          obtain ⟨y0, y1, y2⟩ := Tree_at hcx
          clear hcx
          unfold treeV treeC at HC
          dsimp only at *
          go_wp2_with (first
            | (go_at_call 29; (with_reducible refine HC.out.mono ?_); rintro e w3 ⟨⟨yp, yb, ya, yc, yk⟩, rfl, hT, hF, hB3⟩; dsimp only; have HO3 := Lib.hid (own_below K.out.own hB3 (Nat.le_refl _)); have HCN := Lib.hid (cells_new w3 #[.int .i64 yp, .int .u8 yb, .slice ya yk.length yc] 51); have h3s := hB3.size; have HB3 := Lib.hid hB3; have HF := Lib.hid hF; have HTy := Lib.hid (HX.out _ hT); clear hB3 hF hT)
            | (at_builtin; refine wpList_append_lies _ rfl (.tmp 30) (.tmp 38) 49 rfl (w.heap.size + 1 + 1) 51 i51 (.agg #[.int .i64 0, .int .u8 0, .slice none 0 0]) 3 40 Try.underlying49 ti51 tz51 ts51 tb51 rfl (by decide) v k (cellsL treeC ks) rfl (HO3.out.alloc _) ⟨w3.heap.size, 0, none⟩ 1 1 [.int .i64 yp, .int .u8 yb, .slice ya yk.length yc] rfl rfl HCN.out (by simp [Value.oneCell']) (by omega) (by unfold maxLen; omega) (by omega) (by simp; omega) (w3.heap.size + 1) (by simp) ?_; intro g5 cap5 w5 hown5 hgrow5 hat5 hlt5; have HKN := Lib.hid (K.out.push (.node yp yb ya yc yk) HB3.out HF.out HTy.out g5 cap5 _ hown5 hgrow5 hat5); clear hown5 hgrow5 hat5 hlt5))
          go_roundw
          case rel => exact ⟨k + 1, _, _, rfl, by go_num, by omega, HKN⟩
          case measure => simp [intOf]; omega
        · obtain rfl : k = n := by omega
          obtain ⟨va, vc, rfl, _, _⟩ := own_slice K.out.own
          obtain ⟨z0, z1, z2⟩ := cells3t K.out.b0
          obtain ⟨r0, r1, r2⟩ := cells3t K.out.b1
          have g2 := K.out.b0.frozen 2
          have h0 := K.out.b1.frozen 0
          have h1 := K.out.b1.frozen 1
          have h2 := K.out.b1.frozen 2
          have l1 := K.out.b1.lt
          obtain ⟨WF, hWF⟩ : ∃ W, W = (((wr.setCell ⟨w.heap.size, 2, none⟩ (.slice va k vc)).setCell ⟨w.heap.size + 1, 0, none⟩ (.int .i64 pp)).setCell ⟨w.heap.size + 1, 1, none⟩ (.int .u8 (nb : Nat))).setCell ⟨w.heap.size + 1, 2, none⟩ (.slice va k vc) := ⟨_, rfl⟩
          have hb := (((K.out.b1.other (a := ⟨w.heap.size, 2, none⟩) (by show w.heap.size + 1 ≠ w.heap.size; omega) (.slice va k vc)).set 0 (.int .i64 pp)).set 1 (.int .u8 (nb : Nat))).set 2 (.slice va k vc)
          have hfar := K.out.fin (WF := WF) (fun j hj => by
            rw [hWF, Below.heap_setCell _ ⟨w.heap.size + 1, 2, none⟩ _ j (by show j ≠ w.heap.size + 1; omega), Below.heap_setCell _ ⟨w.heap.size + 1, 1, none⟩ _ j (by show j ≠ w.heap.size + 1; omega), Below.heap_setCell _ ⟨w.heap.size + 1, 0, none⟩ _ j (by show j ≠ w.heap.size + 1; omega), Below.heap_setCell _ ⟨w.heap.size, 2, none⟩ _ j (by show j ≠ w.heap.size; omega)]) (by rw [hWF]; simp) pp (nb : Nat)
          have hBF : Below w.heap.size w WF := by
            rw [hWF]
            exact (((K.out.b.setCell (p := ⟨w.heap.size, 2, none⟩) (Nat.le_refl _) _).setCell (p := ⟨w.heap.size + 1, 0, none⟩) (Nat.le_succ _) _).setCell (p := ⟨w.heap.size + 1, 1, none⟩) (Nat.le_succ _) _).setCell (p := ⟨w.heap.size + 1, 2, none⟩) (Nat.le_succ _) _
          have HWF := Lib.hid hWF
          rw [← hWF] at hb
          have q0 := hb.cell 0
          have q1 := hb.cell 1
          have q2 := hb.cell 2
          simp at q0 q1 q2
          have HFar := Lib.hid hfar
          have HBF := Lib.hid hBF
          have HT2 : Hid (TurnB κ (d + 1) (.node (m : Int) (nb : Nat) ka kc kids) (.node pp (nb : Nat) va vc ks)) := Lib.hid ⟨HPP.out, rfl, by rw [K.out.len, HNk.out], K.out.turn⟩
          have HLe := Lib.hid K.out.len
          clear hWF hb hfar hBF K hlt hk
          go_wp2
          rw [← HWF.out]
          refine bodyPost_ret (v := .agg #[.int .i64 pp, .int .u8 (nb : Nat), .slice va k vc]) (by simp [results, Try.results29, go_sem, q0, q1, q2]) rfl ⟨.node pp (nb : Nat) va vc ks, ?_, HT2.out, HFar.out, HBF.out⟩
          dsimp only
          rw [HLe.out]
    · have d0 : decide ((0 : Int) ≤ p) = true := by simpa using hp0
      have d1 : decide (p < (κ.length : Int)) = false := by simpa using hp1
      have epp : pp = p := by rw [HPP.out]; unfold tnum; rw [if_neg (fun h => hp1 h.2)]
      have K2 := Lib.hid (HEnter.out W1 (by rw [epp]; exact K0.out) K1.out KB.out KS.out)
      have HEpp := Lib.hid epp
      clear epp hp0 hp1 KS
      go_enter Try.func29, Try.ntmps29
      go_upto_region 3 with fail
      rw [← HW1.out]
      go_wp2_with fail
      clear d0 d1
      clear K0 K1 KB HEnter HW1 c0 f0 l0
      go_loopw [5, 6] (fun v5 i wr => ∃ (k : Nat) (ks : List TreeM) (v : Value), v5 = v ∧ i = .int .i64 k ∧ k ≤ n ∧ Hid (TU κ d kids w #[.int .i64 pp, .int .u8 (nb : Nat), .slice ka n kc] #[.int .i64 0, .int .u8 0, .slice none 0 0] v k ks wr)) (fun _ i _ => n - (intOf i).toNat)
      case atStart => exact ⟨0, [], _, rfl, rfl, Nat.zero_le _, K2⟩
      case round =>
        clear K2 c2
        obtain ⟨k, ks, v, hv, rfl, hk, K⟩ := hrel
        obtain rfl := hv.symm
        have c2 := K.out.b0.cell 2
        simp only [List.getElem?_toArray, List.getElem?_cons_zero, List.getElem?_cons_succ] at c2
        have l0 := K.out.b0.lt
        by_cases hlt : k < n
        · obtain ⟨x, hx⟩ : ∃ x, kids[k]? = some x := ⟨_, List.getElem?_eq_getElem (by rw [← HNk.out]; exact hlt)⟩
          obtain ⟨b1, o1, e1, hb1, hc1, hi1⟩ := HT.out k x hx
          subst e1
          have n1 : (k : Int) < (n : Int) := by omega
          have hxm := List.mem_of_getElem? hx
          have lb1 : b1 < wr.heap.size := Nat.lt_of_lt_of_le hb1 K.out.b.size
          have hcx := hc1.below K.out.b hb1
          have HC := Lib.hid (HIh.out x wr (TreeIn.below K.out.b x hi1) (HKf.out x hxm) (HNe.out x hxm) (RowOf.belowN HRow.out K.out.b))
          have HX : Hid (∀ y, TurnB κ d x y → ∀ x', kids[k]? = some x' → TurnB κ d x' y) := Lib.hid fun y h x' h' => by rw [hx] at h'; cases h'; exact h
          have hlo := K.out.lt
          clear hx hxm hc1 hi1
          obtain ⟨xp, xb, xa, xc, xk⟩ := x
          obtain ⟨y0, y1, y2⟩ := Tree_at hcx
          clear hcx
          unfold treeV treeC at HC
          dsimp only at *
          go_wp2_with (first
            | (go_at_call 29; (with_reducible refine HC.out.mono ?_); rintro e w3 ⟨⟨yp, yb, ya, yc, yk⟩, rfl, hT, hF, hB3⟩; dsimp only; have HO3 := Lib.hid (own_below K.out.own hB3 (Nat.le_refl _)); have HCN := Lib.hid (cells_new w3 #[.int .i64 yp, .int .u8 yb, .slice ya yk.length yc] 51); have h3s := hB3.size; have HB3 := Lib.hid hB3; have HF := Lib.hid hF; have HTy := Lib.hid (HX.out _ hT); clear hB3 hF hT)
            | (at_builtin; refine wpList_append_lies _ rfl (.tmp 30) (.tmp 38) 49 rfl (w.heap.size + 1 + 1) 51 i51 (.agg #[.int .i64 0, .int .u8 0, .slice none 0 0]) 3 40 Try.underlying49 ti51 tz51 ts51 tb51 rfl (by decide) v k (cellsL treeC ks) rfl (HO3.out.alloc _) ⟨w3.heap.size, 0, none⟩ 1 1 [.int .i64 yp, .int .u8 yb, .slice ya yk.length yc] rfl rfl HCN.out (by simp [Value.oneCell']) (by omega) (by unfold maxLen; omega) (by omega) (by simp; omega) (w3.heap.size + 1) (by simp) ?_; intro g5 cap5 w5 hown5 hgrow5 hat5 hlt5; have HKN := Lib.hid (K.out.push (.node yp yb ya yc yk) HB3.out HF.out HTy.out g5 cap5 _ hown5 hgrow5 hat5); clear hown5 hgrow5 hat5 hlt5))
          go_roundw
          case rel => exact ⟨k + 1, _, _, rfl, by go_num, by omega, HKN⟩
          case measure => simp [intOf]; omega
        · obtain rfl : k = n := by omega
          obtain ⟨va, vc, rfl, _, _⟩ := own_slice K.out.own
          obtain ⟨z0, z1, z2⟩ := cells3t K.out.b0
          obtain ⟨r0, r1, r2⟩ := cells3t K.out.b1
          have g2 := K.out.b0.frozen 2
          have h0 := K.out.b1.frozen 0
          have h1 := K.out.b1.frozen 1
          have h2 := K.out.b1.frozen 2
          have l1 := K.out.b1.lt
          obtain ⟨WF, hWF⟩ : ∃ W, W = (((wr.setCell ⟨w.heap.size, 2, none⟩ (.slice va k vc)).setCell ⟨w.heap.size + 1, 0, none⟩ (.int .i64 pp)).setCell ⟨w.heap.size + 1, 1, none⟩ (.int .u8 (nb : Nat))).setCell ⟨w.heap.size + 1, 2, none⟩ (.slice va k vc) := ⟨_, rfl⟩
          have hb := (((K.out.b1.other (a := ⟨w.heap.size, 2, none⟩) (by show w.heap.size + 1 ≠ w.heap.size; omega) (.slice va k vc)).set 0 (.int .i64 pp)).set 1 (.int .u8 (nb : Nat))).set 2 (.slice va k vc)
          have hfar := K.out.fin (WF := WF) (fun j hj => by
            rw [hWF, Below.heap_setCell _ ⟨w.heap.size + 1, 2, none⟩ _ j (by show j ≠ w.heap.size + 1; omega), Below.heap_setCell _ ⟨w.heap.size + 1, 1, none⟩ _ j (by show j ≠ w.heap.size + 1; omega), Below.heap_setCell _ ⟨w.heap.size + 1, 0, none⟩ _ j (by show j ≠ w.heap.size + 1; omega), Below.heap_setCell _ ⟨w.heap.size, 2, none⟩ _ j (by show j ≠ w.heap.size; omega)]) (by rw [hWF]; simp) pp (nb : Nat)
          have hBF : Below w.heap.size w WF := by
            rw [hWF]
            exact (((K.out.b.setCell (p := ⟨w.heap.size, 2, none⟩) (Nat.le_refl _) _).setCell (p := ⟨w.heap.size + 1, 0, none⟩) (Nat.le_succ _) _).setCell (p := ⟨w.heap.size + 1, 1, none⟩) (Nat.le_succ _) _).setCell (p := ⟨w.heap.size + 1, 2, none⟩) (Nat.le_succ _) _
          have HWF := Lib.hid hWF
          rw [← hWF] at hb
          have q0 := hb.cell 0
          have q1 := hb.cell 1
          have q2 := hb.cell 2
          simp at q0 q1 q2
          have HFar := Lib.hid hfar
          have HBF := Lib.hid hBF
          have HT2 : Hid (TurnB κ (d + 1) (.node p (nb : Nat) ka kc kids) (.node pp (nb : Nat) va vc ks)) := Lib.hid ⟨HPP.out, rfl, by rw [K.out.len, HNk.out], K.out.turn⟩
          have HLe := Lib.hid K.out.len
          clear hWF hb hfar hBF K hlt hk
          go_wp2
          rw [← HWF.out]
          refine bodyPost_ret (v := .agg #[.int .i64 pp, .int .u8 (nb : Nat), .slice va k vc]) (by simp [results, Try.results29, go_sem, q0, q1, q2]) rfl ⟨.node pp (nb : Nat) va vc ks, ?_, HT2.out, HFar.out, HBF.out⟩
          dsimp only
          rw [HLe.out]
  · have d0 : decide ((0 : Int) ≤ p) = false := by simpa using hp0
    have epp : pp = p := by rw [HPP.out]; unfold tnum; rw [if_neg (fun h => hp0 h.1)]
    have K2 := Lib.hid (HEnter.out W1 (by rw [epp]; exact K0.out) K1.out KB.out KS.out)
    clear epp hp0 KS
    go_enter Try.func29, Try.ntmps29
    go_upto_region 3 with fail
    rw [← HW1.out]
    go_wp2_with fail
    clear d0
    clear K0 K1 KB HEnter HW1 c0 f0 l0
    go_loopw [5, 6] (fun v5 i wr => ∃ (k : Nat) (ks : List TreeM) (v : Value), v5 = v ∧ i = .int .i64 k ∧ k ≤ n ∧ Hid (TU κ d kids w #[.int .i64 pp, .int .u8 (nb : Nat), .slice ka n kc] #[.int .i64 0, .int .u8 0, .slice none 0 0] v k ks wr)) (fun _ i _ => n - (intOf i).toNat)
    case atStart => exact ⟨0, [], _, rfl, rfl, Nat.zero_le _, K2⟩
    case round =>
      clear K2 c2
      obtain ⟨k, ks, v, hv, rfl, hk, K⟩ := hrel
      obtain rfl := hv.symm
      have c2 := K.out.b0.cell 2
      simp only [List.getElem?_toArray, List.getElem?_cons_zero, List.getElem?_cons_succ] at c2
      have l0 := K.out.b0.lt
      by_cases hlt : k < n
      · obtain ⟨x, hx⟩ : ∃ x, kids[k]? = some x := ⟨_, List.getElem?_eq_getElem (by rw [← HNk.out]; exact hlt)⟩
        obtain ⟨b1, o1, e1, hb1, hc1, hi1⟩ := HT.out k x hx
        subst e1
        have n1 : (k : Int) < (n : Int) := by omega
        have hxm := List.mem_of_getElem? hx
        have lb1 : b1 < wr.heap.size := Nat.lt_of_lt_of_le hb1 K.out.b.size
        have hcx := hc1.below K.out.b hb1
        have HC := Lib.hid (HIh.out x wr (TreeIn.below K.out.b x hi1) (HKf.out x hxm) (HNe.out x hxm) (RowOf.belowN HRow.out K.out.b))
        have HX : Hid (∀ y, TurnB κ d x y → ∀ x', kids[k]? = some x' → TurnB κ d x' y) := Lib.hid fun y h x' h' => by rw [hx] at h'; cases h'; exact h
        have hlo := K.out.lt
        clear hx hxm hc1 hi1
        obtain ⟨xp, xb, xa, xc, xk⟩ := x
        obtain ⟨y0, y1, y2⟩ := Tree_at hcx
        clear hcx
        unfold treeV treeC at HC
        dsimp only at *
        go_wp2_with (first
          | (go_at_call 29; (with_reducible refine HC.out.mono ?_); rintro e w3 ⟨⟨yp, yb, ya, yc, yk⟩, rfl, hT, hF, hB3⟩; dsimp only; have HO3 := Lib.hid (own_below K.out.own hB3 (Nat.le_refl _)); have HCN := Lib.hid (cells_new w3 #[.int .i64 yp, .int .u8 yb, .slice ya yk.length yc] 51); have h3s := hB3.size; have HB3 := Lib.hid hB3; have HF := Lib.hid hF; have HTy := Lib.hid (HX.out _ hT); clear hB3 hF hT)
          | (at_builtin; refine wpList_append_lies _ rfl (.tmp 30) (.tmp 38) 49 rfl (w.heap.size + 1 + 1) 51 i51 (.agg #[.int .i64 0, .int .u8 0, .slice none 0 0]) 3 40 Try.underlying49 ti51 tz51 ts51 tb51 rfl (by decide) v k (cellsL treeC ks) rfl (HO3.out.alloc _) ⟨w3.heap.size, 0, none⟩ 1 1 [.int .i64 yp, .int .u8 yb, .slice ya yk.length yc] rfl rfl HCN.out (by simp [Value.oneCell']) (by omega) (by unfold maxLen; omega) (by omega) (by simp; omega) (w3.heap.size + 1) (by simp) ?_; intro g5 cap5 w5 hown5 hgrow5 hat5 hlt5; have HKN := Lib.hid (K.out.push (.node yp yb ya yc yk) HB3.out HF.out HTy.out g5 cap5 _ hown5 hgrow5 hat5); clear hown5 hgrow5 hat5 hlt5))
        go_roundw
        case rel => exact ⟨k + 1, _, _, rfl, by go_num, by omega, HKN⟩
        case measure => simp [intOf]; omega
      · obtain rfl : k = n := by omega
        obtain ⟨va, vc, rfl, _, _⟩ := own_slice K.out.own
        obtain ⟨z0, z1, z2⟩ := cells3t K.out.b0
        obtain ⟨r0, r1, r2⟩ := cells3t K.out.b1
        have g2 := K.out.b0.frozen 2
        have h0 := K.out.b1.frozen 0
        have h1 := K.out.b1.frozen 1
        have h2 := K.out.b1.frozen 2
        have l1 := K.out.b1.lt
        obtain ⟨WF, hWF⟩ : ∃ W, W = (((wr.setCell ⟨w.heap.size, 2, none⟩ (.slice va k vc)).setCell ⟨w.heap.size + 1, 0, none⟩ (.int .i64 pp)).setCell ⟨w.heap.size + 1, 1, none⟩ (.int .u8 (nb : Nat))).setCell ⟨w.heap.size + 1, 2, none⟩ (.slice va k vc) := ⟨_, rfl⟩
        have hb := (((K.out.b1.other (a := ⟨w.heap.size, 2, none⟩) (by show w.heap.size + 1 ≠ w.heap.size; omega) (.slice va k vc)).set 0 (.int .i64 pp)).set 1 (.int .u8 (nb : Nat))).set 2 (.slice va k vc)
        have hfar := K.out.fin (WF := WF) (fun j hj => by
          rw [hWF, Below.heap_setCell _ ⟨w.heap.size + 1, 2, none⟩ _ j (by show j ≠ w.heap.size + 1; omega), Below.heap_setCell _ ⟨w.heap.size + 1, 1, none⟩ _ j (by show j ≠ w.heap.size + 1; omega), Below.heap_setCell _ ⟨w.heap.size + 1, 0, none⟩ _ j (by show j ≠ w.heap.size + 1; omega), Below.heap_setCell _ ⟨w.heap.size, 2, none⟩ _ j (by show j ≠ w.heap.size; omega)]) (by rw [hWF]; simp) pp (nb : Nat)
        have hBF : Below w.heap.size w WF := by
          rw [hWF]
          exact (((K.out.b.setCell (p := ⟨w.heap.size, 2, none⟩) (Nat.le_refl _) _).setCell (p := ⟨w.heap.size + 1, 0, none⟩) (Nat.le_succ _) _).setCell (p := ⟨w.heap.size + 1, 1, none⟩) (Nat.le_succ _) _).setCell (p := ⟨w.heap.size + 1, 2, none⟩) (Nat.le_succ _) _
        have HWF := Lib.hid hWF
        rw [← hWF] at hb
        have q0 := hb.cell 0
        have q1 := hb.cell 1
        have q2 := hb.cell 2
        simp at q0 q1 q2
        have HFar := Lib.hid hfar
        have HBF := Lib.hid hBF
        have HT2 : Hid (TurnB κ (d + 1) (.node p (nb : Nat) ka kc kids) (.node pp (nb : Nat) va vc ks)) := Lib.hid ⟨HPP.out, rfl, by rw [K.out.len, HNk.out], K.out.turn⟩
        have HLe := Lib.hid K.out.len
        clear hWF hb hfar hBF K hlt hk
        go_wp2
        rw [← HWF.out]
        refine bodyPost_ret (v := .agg #[.int .i64 pp, .int .u8 (nb : Nat), .slice va k vc]) (by simp [results, Try.results29, go_sem, q0, q1, q2]) rfl ⟨.node pp (nb : Nat) va vc ks, ?_, HT2.out, HFar.out, HBF.out⟩
        dsimp only
        rw [HLe.out]
end Go.Proofs.Ytiihdbchchnncaa
end
section
namespace Go.Proofs.Ytiihdbchchnncaa
open Go Go.RowKit Go.Vals

/-- The boxes of the law of KernelKeeps. -/
structure KB (X0 X : Array Value) (w wr : World) (H : Nat) (Y : Array Value) : Prop where
  b0 : Blk wr w.heap.size 27 X0
  b1 : Blk wr (w.heap.size + 1) 51 X
  b2 : Blk wr H 27 Y
  bl : Below w.heap.size w wr
theorem KB.below {X0 X : Array Value} {w wr W : World} {H : Nat} {Y : Array Value} (h : KB X0 X w wr H Y) (hB : Below wr.heap.size wr W) : KB X0 X w W H Y :=
  ⟨h.b0.below hB h.b0.lt, h.b1.below hB h.b1.lt, h.b2.below hB h.b2.lt, h.bl.trans (hB.mono h.bl.size)⟩

theorem keep_push {g h : GramM} {R : List Bool} {X0 X Y : Array Value} {w w6 w5 w7 : World} {H n i : Nat} {κ : List Nat} {v v6 : Value} {Z : Array Value} (hK : KB X0 X w w5 H Y) (hB : Below w6.heap.size w6 w5) (hH : w.heap.size + 1 < H ∧ H < w6.heap.size)
    (ho : w5.ownsRow w6.heap.size 3 1 v n (cellsL intC (κ.map fun k : Nat => (k : Int)))) (hown : w7.ownsRow w6.heap.size 3 1 v6 (n + 1) (cellsL intC (κ.map fun k : Nat => (k : Int)) ++ [.int .i64 (i : Int)])) (hgrow : (w5.alloc (.cells Z 3)).grownBy w7 v.ownBlock)
    (hl : κ.length = n) (hc : cnt (pP g R) (i + 1) ≤ n + 1) (hm : ∀ (m k : Nat) (q : ProdM), (κ ++ [i])[m]? = some k → h.prods[m]? = some q → ∃ x, g.prods[k]? = some x ∧ samePB g h x q = true) :
    (κ ++ [i]).length = n + 1 ∧ cnt (pP g R) (i + 1) ≤ n + 1 ∧ (∀ (m k : Nat) (q : ProdM), (κ ++ [i])[m]? = some k → h.prods[m]? = some q → ∃ x, g.prods[k]? = some x ∧ samePB g h x q = true) ∧ w7.ownsRow w6.heap.size 3 1 v6 (n + 1) (cellsL intC ((κ ++ [i]).map fun k : Nat => (k : Int))) ∧ KB X0 X w w7 H Y ∧ Below w6.heap.size w6 w7 := by
  have hs := hB.size
  have low : ∀ j, j < w6.heap.size → w7.heap[j]? = w5.heap[j]? := fun j hj => by
    rw [hgrow.block j (by rw [World.size_alloc]; omega) (low_ne ho hj)]
    exact (World.grownBy_alloc w5 (.cells Z 3) none).block j (by omega) (by simp)
  have hB7 : Below w6.heap.size w6 w7 := (hB.alloc hs (.cells Z 3)).grown hgrow (by rw [World.size_alloc]; omega) fun j ej => (own_lt ho ej).2
  refine ⟨by simp [hl], hc, hm, ?_, ⟨(low _ (by omega)).trans hK.b0, (low _ (by omega)).trans hK.b1, (low _ hH.2).trans hK.b2, ?_⟩, hB7⟩
  · rw [List.map_append, List.map_singleton, cellsL_snoc]; exact hown
  · exact (hK.bl.alloc hK.bl.size (.cells Z 3)).grown hgrow (by rw [World.size_alloc]; have := hK.bl.size; omega) fun j ej => by have := (own_lt ho ej).2; omega

set_option maxRecDepth 100000 in
set_option maxHeartbeats 16000000 in
theorem lawKeeps_any (g : GramM) (t : TreeM) (w : World) (hg : AGram w g) (ht : TreeIn w t) (ha : ∀ d, ATree w d t) (hv : vastB g = false) : Calls Try.prog 8 #[gramV g, treeV t] w fun e w' => e = .returned (.bool true) ∧ Below w.heap.size w w' := by
  obtain ⟨i3, ti3, tz3, ts3, tb3⟩ := info_parts Try.info3
  have T0 := Lib.hid (TwoG.start w (gramC g) 51 (treeC t))
  have H1 := Lib.hid (vast_any g _ (hg.below T0.out.bl))
  rw [hv] at H1
  have hf := hg.fit hv
  have hnil := hg.nilOK
  have HSz := Lib.hid (fun W (hW : Below w.heap.size w W) => size_any 2000 (by omega) t W (TreeIn.below hW t ht))
  rw [show ((2000 : Nat) : Int) = 2000 from rfl] at HSz
  have HKK : Hid (nestB 2000 t = true → tot 2000 t ≤ 2000 → nestB 16384 t = true ∧ TFit 16384 t) := Lib.hid fun h1 h2 =>
    ⟨nest_mono _ t h1 _ (by omega), tot_fit 2000 t h1 (by omega) ha 16384⟩
  have HSP : Hid (∀ (m : Nat) (W : World) (e : Ending) (w' : World), SizeP m t W e w' → ∃ r : Nat, e = .returned (.int .i64 r) ∧ r ≤ m + 1 ∧ (r ≤ m → nestB m t = true ∧ r = tot m t) ∧ Below W.heap.size W w') := Lib.hid fun m W e w' ⟨r, h1, _, h3, h4, h5⟩ => ⟨r, h1, h3, h4, h5⟩
  have HTr := Lib.hid (fun W (hW : Below w.heap.size w W) => trim_any g W (hg.inn.below hW) hf hnil)
  have HRC := Lib.hid (fun W (hW : Below w.heap.size w W) => rcheck_any g W (hg.inn.below hW) hf)
  have HCh := Lib.hid (fun (h : GramM) W (hh : GIn W h) (hfh : FitG h) => rcheck_any h W hh hfh)
  have HTn := Lib.hid (fun (h2 : TFit 16384 t) (h1 : nestB 16384 t = true) (κ : List Nat) ak ck W (hW : Below w.heap.size w W) hrow => turned_any κ ak ck 16384 t W (TreeIn.below hW t ht) h2 h1 hrow)
  have HCT := Lib.hid (fun (t' : TreeM) (h2 : TFit 16384 t') W (hW : Below w.heap.size w W) (ht' : TreeIn W t') => checkTree_any g t' W (hg.inn.below hW) hf ht' h2)
  have HRT := Lib.hid (fun (h : GramM) (hfh : FitG h) (h2 : TFit 16384 t) W (hW : Below w.heap.size w W) (hh : GIn W h) => rctree_any h t W hh hfh (TreeIn.below hW t ht) h2)
  have HG := Lib.hid hg.inn
  have HF := Lib.hid hf
  obtain ⟨tv, htv⟩ : ∃ tv, tv = treeC t := ⟨_, rfl⟩
  obtain ⟨p, b, ka, kc, kids⟩ := t
  have HTv : Hid (tv = #[.int .i64 p, .int .u8 b, .slice ka kids.length kc]) := Lib.hid htv
  obtain ⟨t, ht'⟩ : ∃ t, t = TreeM.node p b ka kc kids := ⟨_, rfl⟩
  rw [← ht'] at HSz HKK HSP HTn HRT T0
  have HTT : Hid (treeV t = .agg #[.int .i64 p, .int .u8 b, .slice ka kids.length kc]) := Lib.hid (by rw [ht']; rfl)
  have HTC : Hid (treeC t = #[.int .i64 p, .int .u8 b, .slice ka kids.length kc]) := Lib.hid (by rw [ht']; rfl)
  rw [HTC.out] at T0
  rw [HTT.out] at HSz HTn HRT
  clear hg ht ha hv hf hnil htv HTv ht'
  unfold gramV gramC treeV treeC at *
  dsimp only at *
  obtain ⟨pa, hpa⟩ : ∃ p, p = g.pa := ⟨_, rfl⟩
  have HPa := Lib.hid hpa
  rw [← hpa] at T0 H1 HTr HRC HCT ⊢
  clear hpa
  have hN : ∀ W : World, Below W.heap.size W W := fun W => Below.refl _ W
  go_enter Try.func8, Try.ntmps8
  go_wp2_with fail
  with_reducible refine H1.out.mono ?_
  rintro e w1 ⟨rfl, hB1⟩
  have T1 := Lib.hid (T0.out.below hB1)
  clear hB1 T0 H1
  obtain ⟨c0, c1, c2, c3, c4⟩ := cells5' T1.out.b0
  obtain ⟨t0, t1, t2⟩ := cells3t T1.out.b1
  have l0 := T1.out.b0.lt
  have l1 := T1.out.b1.lt
  have HS1 := Lib.hid (HSz.out w1 T1.out.bl)
  go_wp2_with fail
  with_reducible refine HS1.out.mono ?_
  intro e w2 hSP
  obtain ⟨r, rfl, hr1, hr2, hB2⟩ := HSP.out 2000 w1 e w2 hSP
  have T2 := Lib.hid (T1.out.below hB2)
  have HR2 := Lib.hid hr2
  clear hB2 hSP hr2 T1 HS1 HSz HSP c0 c1 c2 c3 c4 t0 t1 t2 l0 l1
  by_cases hb : 2000 < r
  · have d1 : decide ((2000 : Int) < (r : Int)) = true := by simp; omega
    have HB2 := Lib.hid T2.out.bl
    clear T2 HKK HTr HRC HCh HTn HCT HRT HG HF HR2 HTT HTC
    go_wp2_with fail
    with_reducible refine (known_any w2).mono ?_
    rintro e w3 ⟨rfl, hB3⟩
    go_wp2
    go_ret
    exact ⟨rfl, HB2.out.trans (hB3.mono HB2.out.size)⟩
  · have d1 : decide ((2000 : Int) < (r : Int)) = false := by simp; omega
    obtain ⟨q1, q2⟩ := HR2.out (by omega)
    obtain ⟨k1, k2⟩ := HKK.out q1 (by omega)
    have HNe := Lib.hid k1
    have HFt := Lib.hid k2
    have HTn2 := Lib.hid (HTn.out k2 k1)
    obtain ⟨c0, c1, c2, c3, c4⟩ := cells5' T2.out.b0
    obtain ⟨t0, t1, t2⟩ := cells3t T2.out.b1
    have l0 := T2.out.b0.lt
    have l1 := T2.out.b1.lt
    have HTr2 := Lib.hid (HTr.out w2 T2.out.bl)
    clear HKK HR2 q1 q2 k1 k2 hb hr1 HTr HTn
    go_wp2_with fail
    with_reducible refine HTr2.out.mono ?_
    rintro e w3 ⟨hTP, hB3⟩
    have T3 := Lib.hid (T2.out.below hB3)
    have HRC3 := Lib.hid (fun W (hW : Below w3.heap.size w3 W) => HRC.out W (T3.out.bl.trans (hW.mono T3.out.bl.size)))
    clear hB3 T2 HTr2 HRC c0 c1 c2 c3 c4 t0 t1 t2 l0 l1
    unfold TrimP at hTP
    cases hck : checkB g with
    | false =>
      rw [hck] at hTP
      simp only [Bool.false_eq_true, if_false] at hTP
      subst hTP
      have HB3 := Lib.hid T3.out.bl
      clear T3 HRC3 HCh HTn2 HCT HRT HG HF HTT HTC HNe HFt hck
      unfold gramV gramC zeroG
      dsimp only
      go_wp2_with fail
      with_reducible refine (known_any _).mono ?_
      rintro e w4 ⟨rfl, hB4⟩
      have HB4 := Lib.hid (HB3.out.trans (((Below.refl w3.heap.size w3).alloc (Nat.le_refl _) _).trans (hB4.mono (by simp)) |>.mono HB3.out.size))
      clear hB4
      go_wp2
      go_ret
      exact ⟨rfl, HB4.out⟩
    | true =>
      rw [hck] at hTP
      simp only [if_true] at hTP
      have HCk := Lib.hid hck
      obtain ⟨L, hL, hTP⟩ := hTP
      have HLv := Lib.hid hL
      clear hL hck
      rcases hTP with ⟨hst, rfl⟩ | ⟨hst, R, h, hR, hK, hgi, hni, rfl⟩
      · have HB3 := Lib.hid T3.out.bl
        clear T3 HRC3 HCh HTn2 HCT HRT HG HF HTT HTC HNe HFt hst HCk HLv
        unfold gramV gramC zeroG
        dsimp only
        go_wp2_with fail
        with_reducible refine (known_any _).mono ?_
        rintro e w4 ⟨rfl, hB4⟩
        have HB4 := Lib.hid (HB3.out.trans (((Below.refl w3.heap.size w3).alloc (Nat.le_refl _) _).trans (hB4.mono (by simp)) |>.mono HB3.out.size))
        clear hB4
        go_wp2
        go_ret
        exact ⟨rfl, HB4.out⟩
      · have hm := mayB_of HCk.out
        have hch := checkB_kept HCk.out hR hK
        have hmh := mayB_of hch
        have hfh := kept_fit HF.out hm hK
        obtain ⟨W4, hW4⟩ : ∃ W4, W4 = w3.alloc (.cells (gramC h) 27) := ⟨_, rfl⟩
        have hB4 : Below w3.heap.size w3 W4 := by rw [hW4]; exact (Below.refl _ _).alloc (Nat.le_refl _) _
        have K4 : Hid (KB #[.slice g.sa g.sorts.length g.sc, .slice pa g.prods.length g.pc, .int .i64 g.start, .slice g.fa g.forbid.length g.fc, .slice g.wa g.follow.length g.wc] #[.int .i64 p, .int .u8 b, .slice ka kids.length kc] w W4 w3.heap.size (gramC h)) := Lib.hid
          ⟨T3.out.b0.below hB4 T3.out.b0.lt, T3.out.b1.below hB4 T3.out.b1.lt, by rw [hW4]; exact Blk.new w3 27 _, T3.out.bl.trans (hB4.mono T3.out.bl.size)⟩
        obtain ⟨H, hH⟩ : ∃ H, H = w3.heap.size := ⟨_, rfl⟩
        have HLH : Hid (w.heap.size + 1 < H) := Lib.hid (by rw [hH]; exact T3.out.b1.lt)
        have Hgi := Lib.hid (hgi.below hB4)
        have HCg : Hid (∀ W, Below W4.heap.size W4 W → Calls Try.prog 12 #[.agg #[.slice g.sa g.sorts.length g.sc, .slice pa g.prods.length g.pc, .int .i64 g.start, .slice g.fa g.forbid.length g.fc, .slice g.wa g.follow.length g.wc]] W fun e w' => e = .returned (.int .i64 0) ∧ Below W.heap.size W w') := Lib.hid fun W hW => by
          have := HRC3.out W (hB4.trans (hW.mono hB4.size))
          rw [HCk.out] at this
          exact this
        have HChh : Hid (∀ W, Below W4.heap.size W4 W → Calls Try.prog 12 #[.agg #[.slice h.sa h.sorts.length h.sc, .slice h.pa h.prods.length h.pc, .int .i64 h.start, .slice h.fa h.forbid.length h.fc, .slice h.wa h.follow.length h.wc]] W fun e w' => e = .returned (.int .i64 0) ∧ Below W.heap.size W w') := Lib.hid fun W hW => by
          have := HCh.out h W (Hgi.out.below hW) hfh
          rw [hch] at this
          exact this
        have HKm := Lib.hid hK
        have HMg := Lib.hid hm
        have HMh := Lib.hid hmh
        have HFh := Lib.hid hfh
        have HRl : Hid (R.length = g.sorts.length) := Lib.hid hR.1
        have hlp : h.prods.length = cnt (pP g R) g.prods.length := kept_plen hK
        have HLp := Lib.hid hlp
        have hp1 := hm.prods
        have hp2 := hmh.prods
        have HW4 := Lib.hid hW4
        rw [← hH] at K4
        have HH := Lib.hid hH
        clear hm hch hmh hfh hW4 hB4 hgi hK hR hst hni hlp T3 HRC3 HCh HLv hH
        obtain ⟨pb, hpb⟩ : ∃ p, p = h.pa := ⟨_, rfl⟩
        have HPb := Lib.hid hpb
        unfold gramC at K4 HW4
        unfold gramV gramC
        rw [← hpb] at K4 HW4 HChh ⊢
        clear hpb
        have hne1 : H < W4.heap.size := K4.out.b2.lt
        obtain ⟨c0, c1, c2, c3, c4⟩ := cells5' K4.out.b0
        have l0 := K4.out.b0.lt
        have C4 := Lib.hid (HCg.out W4 (Below.refl _ _))
        go_upto_region 4 with fail
        rw [← HW4.out, ← HH.out]
        go_wp2_with fail
        with_reducible refine C4.out.mono ?_
        rintro e w5 ⟨rfl, hB5⟩
        have HB5 := Lib.hid hB5
        have K5 := Lib.hid (K4.out.below hB5)
        obtain ⟨h0, h1, h2, h3, h4⟩ := cells5' K5.out.b2
        have l5 := K5.out.b2.lt
        have C5 := Lib.hid (HChh.out w5 hB5)
        clear hB5 c0 c1 c2 c3 c4 l0 C4 K4 HCg
        go_wp2_with fail
        with_reducible refine C5.out.mono ?_
        rintro e w6 ⟨rfl, hB6⟩
        have HB6 := Lib.hid (HB5.out.trans (hB6.mono HB5.out.size))
        have K6 := Lib.hid (K5.out.below hB6)
        have Hgi6 := Lib.hid (Hgi.out.below HB6.out)
        clear hB6 h0 h1 h2 h3 h4 l5 C5 K5 HB5 HChh hne1 Hgi HB6 HW4 HH
        obtain ⟨c0, c1, c2, c3, c4⟩ := cells5' K6.out.b0
        have l0 := K6.out.b0.lt
        obtain ⟨h0, h1, h2, h3, h4⟩ := cells5' K6.out.b2
        have l5 := K6.out.b2.lt
        have hS0 : Hid (([] : List Nat).length = 0 ∧ cnt (pP g R) 0 ≤ 0 ∧ (∀ (m k : Nat) (q : ProdM), ([] : List Nat)[m]? = some k → h.prods[m]? = some q → ∃ x, g.prods[k]? = some x ∧ samePB g h x q = true) ∧ w6.ownsRow w6.heap.size 3 1 (.slice none 0 0) 0 (cellsL intC (([] : List Nat).map fun k : Nat => (k : Int))) ∧ KB #[.slice g.sa g.sorts.length g.sc, .slice pa g.prods.length g.pc, .int .i64 g.start, .slice g.fa g.forbid.length g.fc, .slice g.wa g.follow.length g.wc] #[.int .i64 p, .int .u8 b, .slice ka kids.length kc] w w6 H #[.slice h.sa h.sorts.length h.sc, .slice pb h.prods.length h.pc, .int .i64 h.start, .slice h.fa h.forbid.length h.fc, .slice h.wa h.follow.length h.wc] ∧ Below w6.heap.size w6 w6) :=
          Lib.hid ⟨rfl, by unfold cnt; simp, (fun m k q hk => by simp at hk), World.ownsRow_nil _ _ _ _, K6.out, Below.refl _ _⟩
        have HLH6 : Hid (w.heap.size + 1 < H ∧ H < w6.heap.size) := Lib.hid ⟨HLH.out, K6.out.b2.lt⟩
        go_wp2_with fail
        clear K6 c0 c1 c2 c3 c4 l0 h0 h1 h2 h3 h4 l5
        go_loopw [7, 8, 9] (fun v7 v8 v9 wr => ∃ (i n : Nat) (κ : List Nat) (v : Value), v7 = v ∧ v8 = .int .i64 n ∧ v9 = .int .i64 i ∧ i ≤ g.prods.length ∧ n ≤ h.prods.length ∧
            Hid (κ.length = n ∧ cnt (pP g R) i ≤ n ∧ (∀ (m k : Nat) (q : ProdM), κ[m]? = some k → h.prods[m]? = some q → ∃ x, g.prods[k]? = some x ∧ samePB g h x q = true) ∧ wr.ownsRow w6.heap.size 3 1 v n (cellsL intC (κ.map fun k : Nat => (k : Int))) ∧ KB #[.slice g.sa g.sorts.length g.sc, .slice pa g.prods.length g.pc, .int .i64 g.start, .slice g.fa g.forbid.length g.fc, .slice g.wa g.follow.length g.wc] #[.int .i64 p, .int .u8 b, .slice ka kids.length kc] w wr H #[.slice h.sa h.sorts.length h.sc, .slice pb h.prods.length h.pc, .int .i64 h.start, .slice h.fa h.forbid.length h.fc, .slice h.wa h.follow.length h.wc] ∧ Below w6.heap.size w6 wr))
          (fun _ _ v9 _ => g.prods.length - (intOf v9).toNat)
        case atStart => exact ⟨0, 0, [], _, rfl, rfl, rfl, Nat.zero_le _, Nat.zero_le _, hS0⟩
        case round =>
          clear hS0
          obtain ⟨i, n, κ, v, hv, rfl, rfl, hi, hn, hS⟩ := hrel
          obtain rfl := hv.symm
          obtain ⟨c0, c1, c2, c3, c4⟩ := cells5' hS.out.2.2.2.2.1.b0
          have l0 := hS.out.2.2.2.2.1.b0.lt
          obtain ⟨h0, h1, h2, h3, h4⟩ := cells5' hS.out.2.2.2.2.1.b2
          have l5 := hS.out.2.2.2.2.1.b2.lt
          by_cases hi1 : i < g.prods.length
          · have n1 : (i : Int) < (g.prods.length : Int) := by omega
            by_cases hn1 : n < h.prods.length
            · have n2 : (n : Int) < (h.prods.length : Int) := by omega
              obtain ⟨x, hx⟩ : ∃ x, g.prods[i]? = some x := ⟨_, List.getElem?_eq_getElem hi1⟩
              obtain ⟨q, hq⟩ : ∃ q, h.prods[n]? = some q := ⟨_, List.getElem?_eq_getElem hn1⟩
              have Hgw := Lib.hid (Hgi6.out.below hS.out.2.2.2.2.2)
              have hxm := List.mem_of_getElem? hx
              have hqm := List.mem_of_getElem? hq
              obtain ⟨bg, og, eg, hbg, hcx, hpx⟩ := HG.out.prods i x hx
              obtain ⟨bh, oh, eh, hbh, hcq, hpq⟩ := Hgw.out.prods n q hq
              rw [← HPa.out] at eg
              rw [← HPb.out] at eh
              subst eg
              subst eh
              have hbw := hS.out.2.2.2.2.1.bl
              have HCx : Hid (∀ W, Below wr.heap.size wr W → CellsAt W bg (og + i * 7) (prodC x)) := Lib.hid fun W hW => (hcx.below hbw hbg).below hW (Nat.lt_of_lt_of_le hbg hbw.size)
              have HCq : Hid (∀ W, Below wr.heap.size wr W → CellsAt W bh (oh + n * 7) (prodC q)) := Lib.hid fun W hW => hcq.below hW hbh
              have HCall : Hid (∀ W, Below wr.heap.size wr W → Calls Try.prog 28 #[gramV g, gramV h, prodV x, prodV q] W fun e w' => e = .returned (.bool (samePB g h x q)) ∧ Below W.heap.size W w') := Lib.hid fun W hW =>
                keepsame_any g h x q W (HG.out.below (hbw.trans (hW.mono hbw.size))) (Hgw.out.below hW) ((hpx.below hbw).below hW) (hpq.below hW) (HMg.out.right x hxm) (HMh.out.right q hqm) (HMg.out.left x hxm) (HMh.out.left q hqm)
                  (fun s hs => ⟨HMg.out.kind x hxm s hs, HMg.out.sym x hxm s hs⟩) (fun s hs => ⟨HMh.out.kind q hqm s hs, HMh.out.sym q hqm s hs⟩)
              have HKB : Hid (∀ W, Below wr.heap.size wr W → Blk W w.heap.size 27 (gramC g) ∧ Blk W H 27 (gramC h)) := Lib.hid fun W hW => by
                have k := hS.out.2.2.2.2.1.below hW
                unfold gramC
                rw [← HPa.out, ← HPb.out]
                exact ⟨k.b0, k.b2⟩
              have HC13 : Hid (∀ W, Below wr.heap.size wr W → (W.cell? ⟨w.heap.size, 0, none⟩ = some (.slice g.sa g.sorts.length g.sc) ∧ W.cell? ⟨w.heap.size, 1, none⟩ = some (.slice (some ⟨bg, og, none⟩) g.prods.length g.pc) ∧ W.cell? ⟨w.heap.size, 2, none⟩ = some (.int .i64 g.start) ∧ W.cell? ⟨w.heap.size, 3, none⟩ = some (.slice g.fa g.forbid.length g.fc) ∧ W.cell? ⟨w.heap.size, 4, none⟩ = some (.slice g.wa g.follow.length g.wc))
                  ∧ (W.cell? ⟨H, 0, none⟩ = some (.slice h.sa h.sorts.length h.sc) ∧ W.cell? ⟨H, 1, none⟩ = some (.slice (some ⟨bh, oh, none⟩) h.prods.length h.pc) ∧ W.cell? ⟨H, 2, none⟩ = some (.int .i64 h.start) ∧ W.cell? ⟨H, 3, none⟩ = some (.slice h.fa h.forbid.length h.fc) ∧ W.cell? ⟨H, 4, none⟩ = some (.slice h.wa h.follow.length h.wc))) := Lib.hid fun W hW => by
                have k := hS.out.2.2.2.2.1.below hW
                exact ⟨cells5' k.b0, cells5' k.b2⟩
              obtain ⟨sv, hsv⟩ : ∃ s, s = samePB g h x q := ⟨_, rfl⟩
              have HNo : Hid (sv = false → cnt (pP g R) (i + 1) ≤ n) := Lib.hid fun hs => by
                have hc := hS.out.2.1
                rw [cnt_succ]
                split
                · next hp =>
                  obtain ⟨x', y, h1, h2, h3, h4⟩ := kept_prod HKm.out hp
                  rw [hx] at h1; cases h1
                  by_cases e : cnt (pP g R) i = n
                  · rw [e, hq] at h3; cases h3
                    have := same_kept HMg.out HKm.out HRl.out hxm h2 h4
                    rw [← hsv, hs] at this; cases this
                  · omega
                · exact hc
              have HYes : Hid (cnt (pP g R) (i + 1) ≤ n + 1) := Lib.hid (by
                have hc := hS.out.2.1
                rw [cnt_succ]
                split <;> omega)
              have HMs : Hid (sv = true → ∀ (m k : Nat) (q : ProdM), (κ ++ [i])[m]? = some k → h.prods[m]? = some q → ∃ x, g.prods[k]? = some x ∧ samePB g h x q = true) := Lib.hid fun hs m k q' hk hq' => by
                by_cases e : m < κ.length
                · rw [List.getElem?_append_left e] at hk
                  exact hS.out.2.2.1 m k q' hk hq'
                · have hml : m < (κ ++ [i]).length := (List.getElem?_eq_some_iff.1 hk).1
                  rw [List.length_append, List.length_singleton] at hml
                  have hmn : m = n := by have := hS.out.1; omega
                  subst hmn
                  have : m = κ.length := by omega
                  rw [this, List.getElem?_concat_length] at hk
                  cases hk
                  rw [hq] at hq'; cases hq'
                  exact ⟨x, hx, by rw [← hsv]; exact hs⟩
              rw [← hsv] at HCall
              unfold gramV gramC prodV at HCall
              rw [← HPa.out, ← HPb.out] at HCall
              clear hcx hpx hcq hpq hbw hsv hx hq hxm hqm HKB
              go_upto_region 13 with fail
              clear c0 c1 c2 c3 c4 l0 h0 h1 h2 h3 h4 l5
              refine wp_region_vals0 (N := fun W W' => Below W.heap.size W W') (S := fun W => Below wr.heap.size wr W)
                [.agg #[.slice g.sa g.sorts.length g.sc, .slice (some ⟨bg, og, none⟩) g.prods.length g.pc, .int .i64 g.start, .slice g.fa g.forbid.length g.fc, .slice g.wa g.follow.length g.wc], .agg #[.slice h.sa h.sorts.length h.sc, .slice (some ⟨bh, oh, none⟩) h.prods.length h.pc, .int .i64 h.start, .slice h.fa h.forbid.length h.fc, .slice h.wa h.follow.length h.wc], .pointer (some ⟨w.heap.size, 1, none⟩), .slice (some ⟨bg, og, none⟩) g.prods.length g.pc, .int .i64 (i : Nat), .pointer (some ⟨bg, og + i * 7, none⟩), .agg (prodC x), .pointer (some ⟨H, 1, none⟩), .slice (some ⟨bh, oh, none⟩) h.prods.length h.pc, .int .i64 (n : Nat), .pointer (some ⟨bh, oh + n * 7, none⟩), .agg (prodC q), .bool sv]
                #[.agg #[.slice g.sa g.sorts.length g.sc, .slice (some ⟨bg, og, none⟩) g.prods.length g.pc, .int .i64 g.start, .slice g.fa g.forbid.length g.fc, .slice g.wa g.follow.length g.wc], .agg #[.int .i64 p, .int .u8 b, .slice ka kids.length kc], .pointer (some ⟨w.heap.size, 0, none⟩), .pointer (some ⟨w.heap.size + 1, 0, none⟩), .bool false, .pointer (some ⟨H, 0, none⟩), .int .i64 0, v, .int .i64 (n : Nat), .int .i64 (i : Nat), .agg #[.slice g.sa g.sorts.length g.sc, .slice (some ⟨bg, og, none⟩) g.prods.length g.pc, .int .i64 g.start, .slice g.fa g.forbid.length g.fc, .slice g.wa g.follow.length g.wc], .bool false, .bool false, .agg #[.int .i64 p, .int .u8 b, .slice ka kids.length kc], .int .i64 (r : Nat), .bool false, .bool false, undef, .tuple #[.agg #[.slice h.sa h.sorts.length h.sc, .slice (some ⟨bh, oh, none⟩) h.prods.length h.pc, .int .i64 h.start, .slice h.fa h.forbid.length h.fc, .slice h.wa h.follow.length h.wc], .int .i64 0], .agg #[.slice g.sa g.sorts.length g.sc, .slice (some ⟨bg, og, none⟩) g.prods.length g.pc, .int .i64 g.start, .slice g.fa g.forbid.length g.fc, .slice g.wa g.follow.length g.wc], .tuple #[.agg #[.slice h.sa h.sorts.length h.sc, .slice (some ⟨bh, oh, none⟩) h.prods.length h.pc, .int .i64 h.start, .slice h.fa h.forbid.length h.fc, .slice h.wa h.follow.length h.wc], .int .i64 0], .agg #[.slice h.sa h.sorts.length h.sc, .slice (some ⟨bh, oh, none⟩) h.prods.length h.pc, .int .i64 h.start, .slice h.fa h.forbid.length h.fc, .slice h.wa h.follow.length h.wc], .int .i64 0, .int .i64 0, .bool true, .bool true, .agg #[.slice g.sa g.sorts.length g.sc, .slice (some ⟨bg, og, none⟩) g.prods.length g.pc, .int .i64 g.start, .slice g.fa g.forbid.length g.fc, .slice g.wa g.follow.length g.wc], .int .i64 0, .bool false, .bool false, .agg #[.slice h.sa h.sorts.length h.sc, .slice (some ⟨bh, oh, none⟩) h.prods.length h.pc, .int .i64 h.start, .slice h.fa h.forbid.length h.fc, .slice h.wa h.follow.length h.wc], .int .i64 0, .bool false, .bool false, .bool false, .int .i64 0, .bool false, undef, undef, undef, undef, undef, undef, undef, undef, undef, .int .i64 (i : Nat), .pointer (some ⟨w.heap.size, 1, none⟩), .slice (some ⟨bg, og, none⟩) g.prods.length g.pc, .int .i64 (g.prods.length : Nat), .bool true, .bool true, .int .i64 (n : Nat), .pointer (some ⟨H, 1, none⟩), .slice (some ⟨bh, oh, none⟩) h.prods.length h.pc, .int .i64 (h.prods.length : Nat), .bool true, .bool true, u58, u59, .agg #[.slice g.sa g.sorts.length g.sc, .slice (some ⟨bg, og, none⟩) g.prods.length g.pc, .int .i64 g.start, .slice g.fa g.forbid.length g.fc, .slice g.wa g.follow.length g.wc], .agg #[.slice h.sa h.sorts.length h.sc, .slice (some ⟨bh, oh, none⟩) h.prods.length h.pc, .int .i64 h.start, .slice h.fa h.forbid.length h.fc, .slice h.wa h.follow.length h.wc], .pointer (some ⟨w.heap.size, 1, none⟩), .slice (some ⟨bg, og, none⟩) g.prods.length g.pc, .int .i64 (i : Nat), .pointer (some ⟨bg, og + i * 7, none⟩), .agg (prodC x), .pointer (some ⟨H, 1, none⟩), .slice (some ⟨bh, oh, none⟩) h.prods.length h.pc, .int .i64 (n : Nat), .pointer (some ⟨bh, oh + n * 7, none⟩), .agg (prodC q), .bool sv, u73, u74, u75, u76, u77, u78, undef, undef, undef, undef, undef, undef, undef, undef, undef, undef, undef, undef, undef, undef, undef, undef, undef, undef, undef]
                rfl (by kernel_rfl) (by kernel_rfl) (by kernel_rfl) hN (Below.refl _ wr).drew (fun W W' h hB => h.trans (hB.mono h.size)) ?_ ?_
              · refine Each.val 60 (.agg #[.slice g.sa g.sorts.length g.sc, .slice (some ⟨bg, og, none⟩) g.prods.length g.pc, .int .i64 g.start, .slice g.fa g.forbid.length g.fc, .slice g.wa g.follow.length g.wc]) (by kernel_rfl) (by kernel_rfl) (by kernel_rfl) hN (fun W hS _ => ld27r rfl (by kernel_rfl) ((HC13.out W hS).1)) ?_
                refine Each.val 61 (.agg #[.slice h.sa h.sorts.length h.sc, .slice (some ⟨bh, oh, none⟩) h.prods.length h.pc, .int .i64 h.start, .slice h.fa h.forbid.length h.fc, .slice h.wa h.follow.length h.wc]) (by kernel_rfl) (by kernel_rfl) (by kernel_rfl) hN (fun W hS _ => ld27r rfl (by kernel_rfl) ((HC13.out W hS).2)) ?_
                refine Each.val 62 (.pointer (some ⟨w.heap.size, 1, none⟩)) (by kernel_rfl) (by kernel_rfl) (by kernel_rfl) hN (fun W hS _ => fa27_1 rfl (by kernel_rfl)) ?_
                refine Each.val 63 (.slice (some ⟨bg, og, none⟩) g.prods.length g.pc) (by kernel_rfl) (by kernel_rfl) (by kernel_rfl) hN (fun W hS _ => ld23 rfl (by kernel_rfl) ((HC13.out W hS).1.2.1)) ?_
                refine Each.val 64 (.int .i64 (i : Nat)) (by kernel_rfl) (by kernel_rfl) (by kernel_rfl) hN (fun _ _ _ => by kernel_rfl) ?_
                refine Each.val 65 (.pointer (some ⟨bg, og + i * 7, none⟩)) (by kernel_rfl) (by kernel_rfl) (by kernel_rfl) hN (fun W hS _ => ix23 (c := g.pc) rfl (by kernel_rfl) (by kernel_rfl) ((hi1)) rfl) ?_
                refine Each.val 66 (.agg (prodC x)) (by kernel_rfl) (by kernel_rfl) (by kernel_rfl) hN (fun W hS _ => ld46 rfl (by kernel_rfl) ((HCx.out W hS))) ?_
                refine Each.val 67 (.pointer (some ⟨H, 1, none⟩)) (by kernel_rfl) (by kernel_rfl) (by kernel_rfl) hN (fun W hS _ => fa27_1 rfl (by kernel_rfl)) ?_
                refine Each.val 68 (.slice (some ⟨bh, oh, none⟩) h.prods.length h.pc) (by kernel_rfl) (by kernel_rfl) (by kernel_rfl) hN (fun W hS _ => ld23 rfl (by kernel_rfl) ((HC13.out W hS).2.2.1)) ?_
                refine Each.val 69 (.int .i64 (n : Nat)) (by kernel_rfl) (by kernel_rfl) (by kernel_rfl) hN (fun _ _ _ => by kernel_rfl) ?_
                refine Each.val 70 (.pointer (some ⟨bh, oh + n * 7, none⟩)) (by kernel_rfl) (by kernel_rfl) (by kernel_rfl) hN (fun W hS _ => ix23 (c := h.pc) rfl (by kernel_rfl) (by kernel_rfl) ((hn1)) rfl) ?_
                refine Each.val 71 (.agg (prodC q)) (by kernel_rfl) (by kernel_rfl) (by kernel_rfl) hN (fun W hS _ => ld46 rfl (by kernel_rfl) ((HCq.out W hS))) ?_
                refine Each.call 72 (.bool sv) 28 #[.agg #[.slice g.sa g.sorts.length g.sc, .slice (some ⟨bg, og, none⟩) g.prods.length g.pc, .int .i64 g.start, .slice g.fa g.forbid.length g.fc, .slice g.wa g.follow.length g.wc], .agg #[.slice h.sa h.sorts.length h.sc, .slice (some ⟨bh, oh, none⟩) h.prods.length h.pc, .int .i64 h.start, .slice h.fa h.forbid.length h.fc, .slice h.wa h.follow.length h.wc], .agg (prodC x), .agg (prodC q)] (by kernel_rfl) (by kernel_rfl) (by kernel_rfl) (fun _ _ => by kernel_rfl) (fun W hS => HCall.out W hS) ?_
                exact trivial
              · intro w5 hS5
                have HB5 := Lib.hid hS5
                have K5 := Lib.hid (hS.out.2.2.2.2.1.below hS5)
                have HO5 := Lib.hid (own_below hS.out.2.2.2.1 hS5 (Nat.le_refl _))
                have HB65 := Lib.hid (hS.out.2.2.2.2.2.trans (hS5.mono hS.out.2.2.2.2.2.size))
                clear hS5 HC13 HCx HCq HCall Hgw
                cases sv with
                | false =>
                  go_wp2
                  go_roundw
                  case rel => exact ⟨i + 1, n, κ, v, rfl, rfl, by go_num, by omega, hn, Lib.hid ⟨hS.out.1, HNo.out rfl, hS.out.2.2.1, HO5.out, K5.out, HB65.out⟩⟩
                  case measure => simp [intOf]; omega
                | true =>
                  have HCN := Lib.hid (cells_new w5 #[.int .i64 (i : Int)] 3)
                  have h65 := HB65.out.size
                  go_wp2_with (at_builtin; refine wpList_append_own _ rfl (.tmp 73) (.tmp 75) 40 rfl w6.heap.size 3 i3 (.int .i64 0) 1 8 Try.underlying40 ti3 tz3 ts3 tb3 rfl (by decide) v n (cellsL intC (κ.map fun k : Nat => (k : Int))) rfl (HO5.out.alloc _) ⟨w5.heap.size, 0, none⟩ 1 1 [.int .i64 (i : Int)] rfl rfl HCN.out (by simp [Value.oneCell']) (by unfold maxLen; omega) (by omega) (by simp; omega) ?_; intro v6 w7 hown6 hgrow6 _; have HNx : Hid ((κ ++ [i]).length = n + 1 ∧ cnt (pP g R) (i + 1) ≤ n + 1 ∧ (∀ (m k : Nat) (q : ProdM), (κ ++ [i])[m]? = some k → h.prods[m]? = some q → ∃ x, g.prods[k]? = some x ∧ samePB g h x q = true) ∧ w7.ownsRow w6.heap.size 3 1 v6 (n + 1) (cellsL intC ((κ ++ [i]).map fun k : Nat => (k : Int))) ∧ KB #[.slice g.sa g.sorts.length g.sc, .slice (some ⟨bg, og, none⟩) g.prods.length g.pc, .int .i64 g.start, .slice g.fa g.forbid.length g.fc, .slice g.wa g.follow.length g.wc] #[.int .i64 p, .int .u8 b, .slice ka kids.length kc] w w7 H #[.slice h.sa h.sorts.length h.sc, .slice (some ⟨bh, oh, none⟩) h.prods.length h.pc, .int .i64 h.start, .slice h.fa h.forbid.length h.fc, .slice h.wa h.follow.length h.wc] ∧ Below w6.heap.size w6 w7) := (Lib.hid (keep_push K5.out HB65.out HLH6.out HO5.out hown6 hgrow6 hS.out.1 HYes.out (HMs.out rfl))); clear hown6 hgrow6)
                  go_roundw
                  case rel => exact ⟨i + 1, n + 1, κ ++ [i], _, rfl, by go_num, by go_num, by omega, by omega, HNx⟩
                  case measure => simp [intOf]; omega
            · have hnh : n = h.prods.length := by
                by_cases e : i = g.prods.length
                · have hc := hS.out.2.1
                  rw [e, ← HLp.out] at hc
                  omega
                · omega
              have hgw := Hgi6.out.below hS.out.2.2.2.2.2
              have HMt : Hid (Match g h κ) := Lib.hid ⟨by rw [hS.out.1, hnh], fun m k q h1 h2 => hS.out.2.2.1 m k q h1 h2⟩
              have HKl : Hid (κ.length = h.prods.length) := Lib.hid (by rw [hS.out.1, hnh])
              have hO := hS.out.2.2.2.1
              rw [hnh] at hO
              obtain ⟨va, vc, hva, _, _⟩ := own_slice hO
              obtain rfl := hva
              have hrow : RowInt wr va (κ.map fun k : Nat => (k : Int)) := (own_rowS (cs := intC) (G := NoG) (fun _ => rfl) (c := vc) (by rw [List.length_map, HKl.out]; exact hO) (fun _ _ => trivial)).1
              have KK := Lib.hid hS.out.2.2.2.2.1
              have HR23 := Lib.hid (HRT.out h HFh.out HFt.out wr KK.out.bl hgw)
              rw [← HPb.out] at HR23
              have HTn20 := Lib.hid (fun W (hW : Below wr.heap.size wr W) => HTn2.out κ va vc W (KK.out.bl.trans (hW.mono KK.out.bl.size)) (RowOf.belowN hrow hW))
              rw [HKl.out] at HTn20
              have HC22 : Hid (∀ (t' : TreeM) W, ctI h t = 0 → Below wr.heap.size wr W → TurnB κ 16384 t t' → TreeIn W t' → Calls Try.prog 22 #[.agg #[.slice g.sa g.sorts.length g.sc, .slice pa g.prods.length g.pc, .int .i64 g.start, .slice g.fa g.forbid.length g.fc, .slice g.wa g.follow.length g.wc], treeV t'] W fun e w' => e = .returned (.int .i64 0) ∧ Below W.heap.size W w') := Lib.hid fun t' W hz hW hT hin => by
                have h1 := HCT.out t' (turn_fit 16384 hT HFt.out) W (KK.out.bl.trans (hW.mono KK.out.bl.size)) hin
                have h2 : ctI g t' = 0 := by
                  have h3 : treeB h 16384 t = true := by
                    unfold ctI at hz
                    split at hz
                    · simp at hz
                    · split at hz
                      · simp at hz
                      · split at hz
                        · simp at hz
                        · next h => simpa using h
                  unfold ctI
                  rw [HCk.out, turn_nest 16384 hT HNe.out, turn_tree HCk.out HMh.out HMt.out 16384 hT h3]
                  rfl
                rw [h2] at h1
                exact h1
              subst hnh
              clear hgw hO hrow hS HTn2 HCT HRT HG HF Hgi6 HMg HMh HFh HKm HRl HLp hi hn
              obtain ⟨cz, hcz⟩ : ∃ z, z = ctI h t := ⟨_, rfl⟩
              rw [← hcz] at HR23 HC22
              clear hcz
              obtain ⟨t0, t1, t2⟩ := cells3t KK.out.b1
              have l1 := KK.out.b1.lt
              go_wp2_with fail
              with_reducible refine HR23.out.mono ?_
              rintro e w7 ⟨rfl, hB7⟩
              have HB7 := Lib.hid hB7
              have K7 := Lib.hid (KK.out.below hB7)
              clear hB7 HR23 t0 t1 t2 l1 c0 c1 c2 c3 c4 l0 h0 h1 h2 h3 h4 l5
              by_cases hz : cz = 0
              · have HZ := Lib.hid hz
                subst hz
                have H29 := Lib.hid (fun W (hW : Below w7.heap.size w7 W) => HTn20.out W (HB7.out.trans (hW.mono HB7.out.size)))
                have H22 := Lib.hid (fun (t' : TreeM) W (hW : Below w7.heap.size w7 W) => HC22.out t' W rfl (HB7.out.trans (hW.mono HB7.out.size)))
                have HK : Hid (∀ W, Below w7.heap.size w7 W → (W.cell? ⟨w.heap.size, 0, none⟩ = some (.slice g.sa g.sorts.length g.sc) ∧ W.cell? ⟨w.heap.size, 1, none⟩ = some (.slice pa g.prods.length g.pc) ∧ W.cell? ⟨w.heap.size, 2, none⟩ = some (.int .i64 g.start) ∧ W.cell? ⟨w.heap.size, 3, none⟩ = some (.slice g.fa g.forbid.length g.fc) ∧ W.cell? ⟨w.heap.size, 4, none⟩ = some (.slice g.wa g.follow.length g.wc)) ∧ (W.cell? ⟨w.heap.size + 1, 0, none⟩ = some (.int .i64 p) ∧ W.cell? ⟨w.heap.size + 1, 1, none⟩ = some (.int .u8 b) ∧ W.cell? ⟨w.heap.size + 1, 2, none⟩ = some (.slice ka kids.length kc))) := Lib.hid (fun W hW =>
                  ⟨cells5' (K7.out.b0.below hW K7.out.b0.lt), cells3t (K7.out.b1.below hW K7.out.b1.lt)⟩)
                clear HTn20 HC22
                go_upto_region 20 with fail
                refine wp_region_vals (N := fun W W' => Below W.heap.size W W') (S := fun W => Below w7.heap.size w7 W) [92] (fun _ v W => ∃ t', v = treeV t' ∧ TurnB κ 16384 t t' ∧ TreeIn W t')
                  [.agg #[.slice g.sa g.sorts.length g.sc, .slice pa g.prods.length g.pc, .int .i64 g.start, .slice g.fa g.forbid.length g.fc, .slice g.wa g.follow.length g.wc], .agg #[.int .i64 p, .int .u8 b, .slice ka kids.length kc], .slice va h.prods.length vc, undef, .int .i64 0, .bool true, .bool true, .bool true, .bool true, .bool true]
                  #[.agg #[.slice g.sa g.sorts.length g.sc, .slice pa g.prods.length g.pc, .int .i64 g.start, .slice g.fa g.forbid.length g.fc, .slice g.wa g.follow.length g.wc], .agg #[.int .i64 p, .int .u8 b, .slice ka kids.length kc], .pointer (some ⟨w.heap.size, 0, none⟩), .pointer (some ⟨w.heap.size + 1, 0, none⟩), .bool true, .pointer (some ⟨H, 0, none⟩), .int .i64 0, .slice va h.prods.length vc, .int .i64 (h.prods.length : Nat), .int .i64 (i : Nat), .agg #[.slice g.sa g.sorts.length g.sc, .slice pa g.prods.length g.pc, .int .i64 g.start, .slice g.fa g.forbid.length g.fc, .slice g.wa g.follow.length g.wc], .bool false, .bool false, .agg #[.int .i64 p, .int .u8 b, .slice ka kids.length kc], .int .i64 (r : Nat), .bool false, .bool false, undef, .tuple #[.agg #[.slice h.sa h.sorts.length h.sc, .slice pb h.prods.length h.pc, .int .i64 h.start, .slice h.fa h.forbid.length h.fc, .slice h.wa h.follow.length h.wc], .int .i64 0], .agg #[.slice g.sa g.sorts.length g.sc, .slice pa g.prods.length g.pc, .int .i64 g.start, .slice g.fa g.forbid.length g.fc, .slice g.wa g.follow.length g.wc], .tuple #[.agg #[.slice h.sa h.sorts.length h.sc, .slice pb h.prods.length h.pc, .int .i64 h.start, .slice h.fa h.forbid.length h.fc, .slice h.wa h.follow.length h.wc], .int .i64 0], .agg #[.slice h.sa h.sorts.length h.sc, .slice pb h.prods.length h.pc, .int .i64 h.start, .slice h.fa h.forbid.length h.fc, .slice h.wa h.follow.length h.wc], .int .i64 0, .int .i64 0, .bool true, .bool true, .agg #[.slice g.sa g.sorts.length g.sc, .slice pa g.prods.length g.pc, .int .i64 g.start, .slice g.fa g.forbid.length g.fc, .slice g.wa g.follow.length g.wc], .int .i64 0, .bool false, .bool false, .agg #[.slice h.sa h.sorts.length h.sc, .slice pb h.prods.length h.pc, .int .i64 h.start, .slice h.fa h.forbid.length h.fc, .slice h.wa h.follow.length h.wc], .int .i64 0, .bool false, .bool false, .bool false, .int .i64 0, .bool false, undef, undef, undef, undef, undef, undef, undef, undef, undef, .int .i64 (i : Nat), .pointer (some ⟨w.heap.size, 1, none⟩), .slice pa g.prods.length g.pc, .int .i64 (g.prods.length : Nat), .bool true, .bool true, .int .i64 (h.prods.length : Nat), .pointer (some ⟨H, 1, none⟩), .slice pb h.prods.length h.pc, .int .i64 (h.prods.length : Nat), .bool false, .bool false, u58, u59, u60, u61, u62, u63, u64, u65, u66, u67, u68, u69, u70, u71, u72, u73, u74, u75, u76, u77, u78, .int .i64 (h.prods.length : Nat), .pointer (some ⟨H, 1, none⟩), .slice pb h.prods.length h.pc, .int .i64 (h.prods.length : Nat), .bool false, .agg #[.slice h.sa h.sorts.length h.sc, .slice pb h.prods.length h.pc, .int .i64 h.start, .slice h.fa h.forbid.length h.fc, .slice h.wa h.follow.length h.wc], .agg #[.int .i64 p, .int .u8 b, .slice ka kids.length kc], .int .i64 0, .bool false, undef, .agg #[.slice g.sa g.sorts.length g.sc, .slice pa g.prods.length g.pc, .int .i64 g.start, .slice g.fa g.forbid.length g.fc, .slice g.wa g.follow.length g.wc], .agg #[.int .i64 p, .int .u8 b, .slice ka kids.length kc], .slice va h.prods.length vc, undef, .int .i64 0, .bool true, .bool true, .bool true, .bool true]
                  rfl (by kernel_rfl) (by kernel_rfl) (by kernel_rfl) (by kernel_rfl) hN (Below.refl _ w7).drew (fun W W' h hB => h.trans (hB.mono h.size)) (fun _ _ v W W' h hB => by obtain ⟨t', h1, h2, h3⟩ := h; exact ⟨t', h1, h2, TreeIn.below hB t' h3⟩) ?_ ?_
                · refine Each.val 89 (.agg #[.slice g.sa g.sorts.length g.sc, .slice pa g.prods.length g.pc, .int .i64 g.start, .slice g.fa g.forbid.length g.fc, .slice g.wa g.follow.length g.wc]) (by kernel_rfl) (by kernel_rfl) (by kernel_rfl) hN (fun W hS _ => ld27r rfl (by kernel_rfl) (HK.out W hS).1) ?_
                  refine Each.val 90 (.agg #[.int .i64 p, .int .u8 b, .slice ka kids.length kc]) (by kernel_rfl) (by kernel_rfl) (by kernel_rfl) hN (fun W hS _ => ld51r rfl (by kernel_rfl) (HK.out W hS).2) ?_
                  refine Each.val 91 (.slice va h.prods.length vc) (by kernel_rfl) (by kernel_rfl) (by kernel_rfl) hN (fun _ _ _ => by kernel_rfl) ?_
                  refine Each.callMakes 92 29 #[.agg #[.int .i64 p, .int .u8 b, .slice ka kids.length kc], .slice va h.prods.length vc] (by kernel_rfl) (by kernel_rfl) (by kernel_rfl) (by kernel_rfl) (by kernel_rfl) (fun _ _ => by kernel_rfl) (fun W hS => (H29.out W hS).mono fun e w' ⟨t', h1, h2, h3, h4⟩ => ⟨_, h1, h4, t', rfl, h2, h3.tin⟩) ?_
                  refine Each.callLoose2 93 89 92 (.agg #[.slice g.sa g.sorts.length g.sc, .slice pa g.prods.length g.pc, .int .i64 g.start, .slice g.fa g.forbid.length g.fc, .slice g.wa g.follow.length g.wc]) (.int .i64 0) 22 (by kernel_rfl) (by kernel_rfl) (by kernel_rfl) (by kernel_rfl) (by kernel_rfl) (by kernel_rfl) (by kernel_rfl) (by kernel_rfl) (by kernel_rfl) (fun _ _ => by kernel_rfl) (fun W x hS hx => by obtain ⟨t', rfl, h2, h3⟩ := hx; exact H22.out t' W hS h2 h3) ?_
                  refine Each.val 94 (.bool true) (by kernel_rfl) (by kernel_rfl) (by kernel_rfl) hN (fun W hS _ => ex_eql32 rfl (by kernel_rfl) (by kernel_rfl) (beq_self_eq_true (0 : Int))) ?_
                  refine Each.val 95 (.bool true) (by kernel_rfl) (by kernel_rfl) (by kernel_rfl) hN (fun _ _ _ => by kernel_rfl) ?_
                  refine Each.call 96 (.bool true) 10 #[] (by kernel_rfl) (by kernel_rfl) (by kernel_rfl) (fun _ _ => by kernel_rfl) (fun W hS => known_any W) ?_
                  refine Each.val 97 (.bool true) (by kernel_rfl) (by kernel_rfl) (by kernel_rfl) hN (fun _ _ _ => by kernel_rfl) ?_
                  refine Each.val 4 (.bool true) (by kernel_rfl) (by kernel_rfl) (by kernel_rfl) hN (fun _ _ _ => by kernel_rfl) ?_
                  exact trivial
                · intro T w8 hT hS hk
                  have hT1 := loose_eq hT hk
                  obtain ⟨v1, hTT⟩ : ∃ v1 : Value, T = #[.agg #[.slice g.sa g.sorts.length g.sc, .slice pa g.prods.length g.pc, .int .i64 g.start, .slice g.fa g.forbid.length g.fc, .slice g.wa g.follow.length g.wc], .agg #[.int .i64 p, .int .u8 b, .slice ka kids.length kc], .pointer (some ⟨w.heap.size, 0, none⟩), .pointer (some ⟨w.heap.size + 1, 0, none⟩), .bool true, .pointer (some ⟨H, 0, none⟩), .int .i64 0, .slice va h.prods.length vc, .int .i64 (h.prods.length : Nat), .int .i64 (i : Nat), .agg #[.slice g.sa g.sorts.length g.sc, .slice pa g.prods.length g.pc, .int .i64 g.start, .slice g.fa g.forbid.length g.fc, .slice g.wa g.follow.length g.wc], .bool false, .bool false, .agg #[.int .i64 p, .int .u8 b, .slice ka kids.length kc], .int .i64 (r : Nat), .bool false, .bool false, undef, .tuple #[.agg #[.slice h.sa h.sorts.length h.sc, .slice pb h.prods.length h.pc, .int .i64 h.start, .slice h.fa h.forbid.length h.fc, .slice h.wa h.follow.length h.wc], .int .i64 0], .agg #[.slice g.sa g.sorts.length g.sc, .slice pa g.prods.length g.pc, .int .i64 g.start, .slice g.fa g.forbid.length g.fc, .slice g.wa g.follow.length g.wc], .tuple #[.agg #[.slice h.sa h.sorts.length h.sc, .slice pb h.prods.length h.pc, .int .i64 h.start, .slice h.fa h.forbid.length h.fc, .slice h.wa h.follow.length h.wc], .int .i64 0], .agg #[.slice h.sa h.sorts.length h.sc, .slice pb h.prods.length h.pc, .int .i64 h.start, .slice h.fa h.forbid.length h.fc, .slice h.wa h.follow.length h.wc], .int .i64 0, .int .i64 0, .bool true, .bool true, .agg #[.slice g.sa g.sorts.length g.sc, .slice pa g.prods.length g.pc, .int .i64 g.start, .slice g.fa g.forbid.length g.fc, .slice g.wa g.follow.length g.wc], .int .i64 0, .bool false, .bool false, .agg #[.slice h.sa h.sorts.length h.sc, .slice pb h.prods.length h.pc, .int .i64 h.start, .slice h.fa h.forbid.length h.fc, .slice h.wa h.follow.length h.wc], .int .i64 0, .bool false, .bool false, .bool false, .int .i64 0, .bool false, undef, undef, undef, undef, undef, undef, undef, undef, undef, .int .i64 (i : Nat), .pointer (some ⟨w.heap.size, 1, none⟩), .slice pa g.prods.length g.pc, .int .i64 (g.prods.length : Nat), .bool true, .bool true, .int .i64 (h.prods.length : Nat), .pointer (some ⟨H, 1, none⟩), .slice pb h.prods.length h.pc, .int .i64 (h.prods.length : Nat), .bool false, .bool false, u58, u59, u60, u61, u62, u63, u64, u65, u66, u67, u68, u69, u70, u71, u72, u73, u74, u75, u76, u77, u78, .int .i64 (h.prods.length : Nat), .pointer (some ⟨H, 1, none⟩), .slice pb h.prods.length h.pc, .int .i64 (h.prods.length : Nat), .bool false, .agg #[.slice h.sa h.sorts.length h.sc, .slice pb h.prods.length h.pc, .int .i64 h.start, .slice h.fa h.forbid.length h.fc, .slice h.wa h.follow.length h.wc], .agg #[.int .i64 p, .int .u8 b, .slice ka kids.length kc], .int .i64 0, .bool false, undef, .agg #[.slice g.sa g.sorts.length g.sc, .slice pa g.prods.length g.pc, .int .i64 g.start, .slice g.fa g.forbid.length g.fc, .slice g.wa g.follow.length g.wc], .agg #[.int .i64 p, .int .u8 b, .slice ka kids.length kc], .slice va h.prods.length vc, v1, .int .i64 0, .bool true, .bool true, .bool true, .bool true] := ⟨T.getD 92 undef, hT1⟩
                  have HB8 := Lib.hid (K7.out.bl.trans (hS.mono K7.out.bl.size))
                  clear hT1 hk hT hS HK H29 H22 K7 HB7
                  subst hTT
                  go_wp2
                  go_ret
                  exact ⟨rfl, HB8.out⟩
              · have d2 : (cz == 0) = false := by simpa using hz
                have HB7' := Lib.hid K7.out.bl
                clear HTn20 HC22 K7
                go_wp2_with fail
                with_reducible refine (known_any w7).mono ?_
                rintro e w8 ⟨rfl, hB8⟩
                go_wp2
                go_ret
                exact ⟨rfl, HB7'.out.trans (hB8.mono HB7'.out.size)⟩
          · have hnh : n = h.prods.length := by
              by_cases e : i = g.prods.length
              · have hc := hS.out.2.1
                rw [e, ← HLp.out] at hc
                omega
              · omega
            have hgw := Hgi6.out.below hS.out.2.2.2.2.2
            have HMt : Hid (Match g h κ) := Lib.hid ⟨by rw [hS.out.1, hnh], fun m k q h1 h2 => hS.out.2.2.1 m k q h1 h2⟩
            have HKl : Hid (κ.length = h.prods.length) := Lib.hid (by rw [hS.out.1, hnh])
            have hO := hS.out.2.2.2.1
            rw [hnh] at hO
            obtain ⟨va, vc, hva, _, _⟩ := own_slice hO
            obtain rfl := hva
            have hrow : RowInt wr va (κ.map fun k : Nat => (k : Int)) := (own_rowS (cs := intC) (G := NoG) (fun _ => rfl) (c := vc) (by rw [List.length_map, HKl.out]; exact hO) (fun _ _ => trivial)).1
            have KK := Lib.hid hS.out.2.2.2.2.1
            have HR23 := Lib.hid (HRT.out h HFh.out HFt.out wr KK.out.bl hgw)
            rw [← HPb.out] at HR23
            have HTn20 := Lib.hid (fun W (hW : Below wr.heap.size wr W) => HTn2.out κ va vc W (KK.out.bl.trans (hW.mono KK.out.bl.size)) (RowOf.belowN hrow hW))
            rw [HKl.out] at HTn20
            have HC22 : Hid (∀ (t' : TreeM) W, ctI h t = 0 → Below wr.heap.size wr W → TurnB κ 16384 t t' → TreeIn W t' → Calls Try.prog 22 #[.agg #[.slice g.sa g.sorts.length g.sc, .slice pa g.prods.length g.pc, .int .i64 g.start, .slice g.fa g.forbid.length g.fc, .slice g.wa g.follow.length g.wc], treeV t'] W fun e w' => e = .returned (.int .i64 0) ∧ Below W.heap.size W w') := Lib.hid fun t' W hz hW hT hin => by
              have h1 := HCT.out t' (turn_fit 16384 hT HFt.out) W (KK.out.bl.trans (hW.mono KK.out.bl.size)) hin
              have h2 : ctI g t' = 0 := by
                have h3 : treeB h 16384 t = true := by
                  unfold ctI at hz
                  split at hz
                  · simp at hz
                  · split at hz
                    · simp at hz
                    · split at hz
                      · simp at hz
                      · next h => simpa using h
                unfold ctI
                rw [HCk.out, turn_nest 16384 hT HNe.out, turn_tree HCk.out HMh.out HMt.out 16384 hT h3]
                rfl
              rw [h2] at h1
              exact h1
            subst hnh
            clear hgw hO hrow hS HTn2 HCT HRT HG HF Hgi6 HMg HMh HFh HKm HRl HLp hi hn
            obtain ⟨cz, hcz⟩ : ∃ z, z = ctI h t := ⟨_, rfl⟩
            rw [← hcz] at HR23 HC22
            clear hcz
            obtain ⟨t0, t1, t2⟩ := cells3t KK.out.b1
            have l1 := KK.out.b1.lt
            go_wp2_with fail
            with_reducible refine HR23.out.mono ?_
            rintro e w7 ⟨rfl, hB7⟩
            have HB7 := Lib.hid hB7
            have K7 := Lib.hid (KK.out.below hB7)
            clear hB7 HR23 t0 t1 t2 l1 c0 c1 c2 c3 c4 l0 h0 h1 h2 h3 h4 l5
            by_cases hz : cz = 0
            · have HZ := Lib.hid hz
              subst hz
              have H29 := Lib.hid (fun W (hW : Below w7.heap.size w7 W) => HTn20.out W (HB7.out.trans (hW.mono HB7.out.size)))
              have H22 := Lib.hid (fun (t' : TreeM) W (hW : Below w7.heap.size w7 W) => HC22.out t' W rfl (HB7.out.trans (hW.mono HB7.out.size)))
              have HK : Hid (∀ W, Below w7.heap.size w7 W → (W.cell? ⟨w.heap.size, 0, none⟩ = some (.slice g.sa g.sorts.length g.sc) ∧ W.cell? ⟨w.heap.size, 1, none⟩ = some (.slice pa g.prods.length g.pc) ∧ W.cell? ⟨w.heap.size, 2, none⟩ = some (.int .i64 g.start) ∧ W.cell? ⟨w.heap.size, 3, none⟩ = some (.slice g.fa g.forbid.length g.fc) ∧ W.cell? ⟨w.heap.size, 4, none⟩ = some (.slice g.wa g.follow.length g.wc)) ∧ (W.cell? ⟨w.heap.size + 1, 0, none⟩ = some (.int .i64 p) ∧ W.cell? ⟨w.heap.size + 1, 1, none⟩ = some (.int .u8 b) ∧ W.cell? ⟨w.heap.size + 1, 2, none⟩ = some (.slice ka kids.length kc))) := Lib.hid (fun W hW =>
                ⟨cells5' (K7.out.b0.below hW K7.out.b0.lt), cells3t (K7.out.b1.below hW K7.out.b1.lt)⟩)
              clear HTn20 HC22
              go_upto_region 20 with fail
              refine wp_region_vals (N := fun W W' => Below W.heap.size W W') (S := fun W => Below w7.heap.size w7 W) [92] (fun _ v W => ∃ t', v = treeV t' ∧ TurnB κ 16384 t t' ∧ TreeIn W t')
                [.agg #[.slice g.sa g.sorts.length g.sc, .slice pa g.prods.length g.pc, .int .i64 g.start, .slice g.fa g.forbid.length g.fc, .slice g.wa g.follow.length g.wc], .agg #[.int .i64 p, .int .u8 b, .slice ka kids.length kc], .slice va h.prods.length vc, undef, .int .i64 0, .bool true, .bool true, .bool true, .bool true, .bool true]
                #[.agg #[.slice g.sa g.sorts.length g.sc, .slice pa g.prods.length g.pc, .int .i64 g.start, .slice g.fa g.forbid.length g.fc, .slice g.wa g.follow.length g.wc], .agg #[.int .i64 p, .int .u8 b, .slice ka kids.length kc], .pointer (some ⟨w.heap.size, 0, none⟩), .pointer (some ⟨w.heap.size + 1, 0, none⟩), .bool true, .pointer (some ⟨H, 0, none⟩), .int .i64 0, .slice va h.prods.length vc, .int .i64 (h.prods.length : Nat), .int .i64 (i : Nat), .agg #[.slice g.sa g.sorts.length g.sc, .slice pa g.prods.length g.pc, .int .i64 g.start, .slice g.fa g.forbid.length g.fc, .slice g.wa g.follow.length g.wc], .bool false, .bool false, .agg #[.int .i64 p, .int .u8 b, .slice ka kids.length kc], .int .i64 (r : Nat), .bool false, .bool false, undef, .tuple #[.agg #[.slice h.sa h.sorts.length h.sc, .slice pb h.prods.length h.pc, .int .i64 h.start, .slice h.fa h.forbid.length h.fc, .slice h.wa h.follow.length h.wc], .int .i64 0], .agg #[.slice g.sa g.sorts.length g.sc, .slice pa g.prods.length g.pc, .int .i64 g.start, .slice g.fa g.forbid.length g.fc, .slice g.wa g.follow.length g.wc], .tuple #[.agg #[.slice h.sa h.sorts.length h.sc, .slice pb h.prods.length h.pc, .int .i64 h.start, .slice h.fa h.forbid.length h.fc, .slice h.wa h.follow.length h.wc], .int .i64 0], .agg #[.slice h.sa h.sorts.length h.sc, .slice pb h.prods.length h.pc, .int .i64 h.start, .slice h.fa h.forbid.length h.fc, .slice h.wa h.follow.length h.wc], .int .i64 0, .int .i64 0, .bool true, .bool true, .agg #[.slice g.sa g.sorts.length g.sc, .slice pa g.prods.length g.pc, .int .i64 g.start, .slice g.fa g.forbid.length g.fc, .slice g.wa g.follow.length g.wc], .int .i64 0, .bool false, .bool false, .agg #[.slice h.sa h.sorts.length h.sc, .slice pb h.prods.length h.pc, .int .i64 h.start, .slice h.fa h.forbid.length h.fc, .slice h.wa h.follow.length h.wc], .int .i64 0, .bool false, .bool false, .bool false, .int .i64 0, .bool false, undef, undef, undef, undef, undef, undef, undef, undef, undef, .int .i64 (i : Nat), .pointer (some ⟨w.heap.size, 1, none⟩), .slice pa g.prods.length g.pc, .int .i64 (g.prods.length : Nat), .bool false, .bool false, undef, undef, undef, undef, undef, .bool false, u58, u59, u60, u61, u62, u63, u64, u65, u66, u67, u68, u69, u70, u71, u72, u73, u74, u75, u76, u77, u78, .int .i64 (h.prods.length : Nat), .pointer (some ⟨H, 1, none⟩), .slice pb h.prods.length h.pc, .int .i64 (h.prods.length : Nat), .bool false, .agg #[.slice h.sa h.sorts.length h.sc, .slice pb h.prods.length h.pc, .int .i64 h.start, .slice h.fa h.forbid.length h.fc, .slice h.wa h.follow.length h.wc], .agg #[.int .i64 p, .int .u8 b, .slice ka kids.length kc], .int .i64 0, .bool false, undef, .agg #[.slice g.sa g.sorts.length g.sc, .slice pa g.prods.length g.pc, .int .i64 g.start, .slice g.fa g.forbid.length g.fc, .slice g.wa g.follow.length g.wc], .agg #[.int .i64 p, .int .u8 b, .slice ka kids.length kc], .slice va h.prods.length vc, undef, .int .i64 0, .bool true, .bool true, .bool true, .bool true]
                rfl (by kernel_rfl) (by kernel_rfl) (by kernel_rfl) (by kernel_rfl) hN (Below.refl _ w7).drew (fun W W' h hB => h.trans (hB.mono h.size)) (fun _ _ v W W' h hB => by obtain ⟨t', h1, h2, h3⟩ := h; exact ⟨t', h1, h2, TreeIn.below hB t' h3⟩) ?_ ?_
              · refine Each.val 89 (.agg #[.slice g.sa g.sorts.length g.sc, .slice pa g.prods.length g.pc, .int .i64 g.start, .slice g.fa g.forbid.length g.fc, .slice g.wa g.follow.length g.wc]) (by kernel_rfl) (by kernel_rfl) (by kernel_rfl) hN (fun W hS _ => ld27r rfl (by kernel_rfl) (HK.out W hS).1) ?_
                refine Each.val 90 (.agg #[.int .i64 p, .int .u8 b, .slice ka kids.length kc]) (by kernel_rfl) (by kernel_rfl) (by kernel_rfl) hN (fun W hS _ => ld51r rfl (by kernel_rfl) (HK.out W hS).2) ?_
                refine Each.val 91 (.slice va h.prods.length vc) (by kernel_rfl) (by kernel_rfl) (by kernel_rfl) hN (fun _ _ _ => by kernel_rfl) ?_
                refine Each.callMakes 92 29 #[.agg #[.int .i64 p, .int .u8 b, .slice ka kids.length kc], .slice va h.prods.length vc] (by kernel_rfl) (by kernel_rfl) (by kernel_rfl) (by kernel_rfl) (by kernel_rfl) (fun _ _ => by kernel_rfl) (fun W hS => (H29.out W hS).mono fun e w' ⟨t', h1, h2, h3, h4⟩ => ⟨_, h1, h4, t', rfl, h2, h3.tin⟩) ?_
                refine Each.callLoose2 93 89 92 (.agg #[.slice g.sa g.sorts.length g.sc, .slice pa g.prods.length g.pc, .int .i64 g.start, .slice g.fa g.forbid.length g.fc, .slice g.wa g.follow.length g.wc]) (.int .i64 0) 22 (by kernel_rfl) (by kernel_rfl) (by kernel_rfl) (by kernel_rfl) (by kernel_rfl) (by kernel_rfl) (by kernel_rfl) (by kernel_rfl) (by kernel_rfl) (fun _ _ => by kernel_rfl) (fun W x hS hx => by obtain ⟨t', rfl, h2, h3⟩ := hx; exact H22.out t' W hS h2 h3) ?_
                refine Each.val 94 (.bool true) (by kernel_rfl) (by kernel_rfl) (by kernel_rfl) hN (fun W hS _ => ex_eql32 rfl (by kernel_rfl) (by kernel_rfl) (beq_self_eq_true (0 : Int))) ?_
                refine Each.val 95 (.bool true) (by kernel_rfl) (by kernel_rfl) (by kernel_rfl) hN (fun _ _ _ => by kernel_rfl) ?_
                refine Each.call 96 (.bool true) 10 #[] (by kernel_rfl) (by kernel_rfl) (by kernel_rfl) (fun _ _ => by kernel_rfl) (fun W hS => known_any W) ?_
                refine Each.val 97 (.bool true) (by kernel_rfl) (by kernel_rfl) (by kernel_rfl) hN (fun _ _ _ => by kernel_rfl) ?_
                refine Each.val 4 (.bool true) (by kernel_rfl) (by kernel_rfl) (by kernel_rfl) hN (fun _ _ _ => by kernel_rfl) ?_
                exact trivial
              · intro T w8 hT hS hk
                have hT1 := loose_eq hT hk
                obtain ⟨v1, hTT⟩ : ∃ v1 : Value, T = #[.agg #[.slice g.sa g.sorts.length g.sc, .slice pa g.prods.length g.pc, .int .i64 g.start, .slice g.fa g.forbid.length g.fc, .slice g.wa g.follow.length g.wc], .agg #[.int .i64 p, .int .u8 b, .slice ka kids.length kc], .pointer (some ⟨w.heap.size, 0, none⟩), .pointer (some ⟨w.heap.size + 1, 0, none⟩), .bool true, .pointer (some ⟨H, 0, none⟩), .int .i64 0, .slice va h.prods.length vc, .int .i64 (h.prods.length : Nat), .int .i64 (i : Nat), .agg #[.slice g.sa g.sorts.length g.sc, .slice pa g.prods.length g.pc, .int .i64 g.start, .slice g.fa g.forbid.length g.fc, .slice g.wa g.follow.length g.wc], .bool false, .bool false, .agg #[.int .i64 p, .int .u8 b, .slice ka kids.length kc], .int .i64 (r : Nat), .bool false, .bool false, undef, .tuple #[.agg #[.slice h.sa h.sorts.length h.sc, .slice pb h.prods.length h.pc, .int .i64 h.start, .slice h.fa h.forbid.length h.fc, .slice h.wa h.follow.length h.wc], .int .i64 0], .agg #[.slice g.sa g.sorts.length g.sc, .slice pa g.prods.length g.pc, .int .i64 g.start, .slice g.fa g.forbid.length g.fc, .slice g.wa g.follow.length g.wc], .tuple #[.agg #[.slice h.sa h.sorts.length h.sc, .slice pb h.prods.length h.pc, .int .i64 h.start, .slice h.fa h.forbid.length h.fc, .slice h.wa h.follow.length h.wc], .int .i64 0], .agg #[.slice h.sa h.sorts.length h.sc, .slice pb h.prods.length h.pc, .int .i64 h.start, .slice h.fa h.forbid.length h.fc, .slice h.wa h.follow.length h.wc], .int .i64 0, .int .i64 0, .bool true, .bool true, .agg #[.slice g.sa g.sorts.length g.sc, .slice pa g.prods.length g.pc, .int .i64 g.start, .slice g.fa g.forbid.length g.fc, .slice g.wa g.follow.length g.wc], .int .i64 0, .bool false, .bool false, .agg #[.slice h.sa h.sorts.length h.sc, .slice pb h.prods.length h.pc, .int .i64 h.start, .slice h.fa h.forbid.length h.fc, .slice h.wa h.follow.length h.wc], .int .i64 0, .bool false, .bool false, .bool false, .int .i64 0, .bool false, undef, undef, undef, undef, undef, undef, undef, undef, undef, .int .i64 (i : Nat), .pointer (some ⟨w.heap.size, 1, none⟩), .slice pa g.prods.length g.pc, .int .i64 (g.prods.length : Nat), .bool false, .bool false, undef, undef, undef, undef, undef, .bool false, u58, u59, u60, u61, u62, u63, u64, u65, u66, u67, u68, u69, u70, u71, u72, u73, u74, u75, u76, u77, u78, .int .i64 (h.prods.length : Nat), .pointer (some ⟨H, 1, none⟩), .slice pb h.prods.length h.pc, .int .i64 (h.prods.length : Nat), .bool false, .agg #[.slice h.sa h.sorts.length h.sc, .slice pb h.prods.length h.pc, .int .i64 h.start, .slice h.fa h.forbid.length h.fc, .slice h.wa h.follow.length h.wc], .agg #[.int .i64 p, .int .u8 b, .slice ka kids.length kc], .int .i64 0, .bool false, undef, .agg #[.slice g.sa g.sorts.length g.sc, .slice pa g.prods.length g.pc, .int .i64 g.start, .slice g.fa g.forbid.length g.fc, .slice g.wa g.follow.length g.wc], .agg #[.int .i64 p, .int .u8 b, .slice ka kids.length kc], .slice va h.prods.length vc, v1, .int .i64 0, .bool true, .bool true, .bool true, .bool true] := ⟨T.getD 92 undef, hT1⟩
                have HB8 := Lib.hid (K7.out.bl.trans (hS.mono K7.out.bl.size))
                clear hT1 hk hT hS HK H29 H22 K7 HB7
                subst hTT
                go_wp2
                go_ret
                exact ⟨rfl, HB8.out⟩
            · have d2 : (cz == 0) = false := by simpa using hz
              have HB7' := Lib.hid K7.out.bl
              clear HTn20 HC22 K7
              go_wp2_with fail
              with_reducible refine (known_any w7).mono ?_
              rintro e w8 ⟨rfl, hB8⟩
              go_wp2
              go_ret
              exact ⟨rfl, HB7'.out.trans (hB8.mono HB7'.out.size)⟩

set_option maxRecDepth 100000 in
set_option maxHeartbeats 4000000 in
theorem lawKeeps_vast (g : GramM) (t : TreeM) (w : World) (hg : AGram w g) (hv : vastB g = true) : Calls Try.prog 8 #[gramV g, treeV t] w fun e w' => e = .returned (.bool true) ∧ Below w.heap.size w w' := by
  have T0 := Lib.hid (TwoG.start w (gramC g) 51 (treeC t))
  have H1 := Lib.hid (vast_any g _ (hg.below T0.out.bl))
  rw [hv] at H1
  have HB0 := Lib.hid T0.out.bl
  clear hg hv T0
  obtain ⟨p, b, ka, kc, kids⟩ := t
  unfold gramV gramC treeV treeC at *
  dsimp only at *
  go_enter Try.func8, Try.ntmps8
  go_wp2_with fail
  with_reducible refine H1.out.mono ?_
  rintro e w1 ⟨rfl, hB1⟩
  have HB1 := Lib.hid (HB0.out.trans (hB1.mono HB0.out.size))
  clear hB1
  go_wp2_with fail
  with_reducible refine (known_any w1).mono ?_
  rintro e w2 ⟨rfl, hB2⟩
  go_wp2
  go_ret
  exact ⟨rfl, HB1.out.trans (hB2.mono HB1.out.size)⟩
end Go.Proofs.Ytiihdbchchnncaa
end
