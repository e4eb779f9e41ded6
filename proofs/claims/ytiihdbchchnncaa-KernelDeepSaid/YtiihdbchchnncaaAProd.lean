import Derived.Test.YtiihdbchchnncaaA
namespace Go.Proofs.Ytiihdbchchnncaa
open Go Go.RowKit

set_option maxRecDepth 100000 in
set_option maxHeartbeats 1000000 in
theorem notProd_any (x : ProdM) (p : Bool) (K : Nat) (lb : Array Value) (eg : ∀ args w, (callFunc K args).run Try.prog w = .ok (.enter K args) w) (B : Nat) (w : World) (hb : w.cell? ⟨B, 0, none⟩ = some (.func (.func K) #[] lb))
    (H : ∀ W, Below w.heap.size w W → Calls Try.prog K (#[prodV x] ++ lb) W fun e w' => e = .returned (.bool p) ∧ Below W.heap.size W w') :
    Calls Try.prog 95 #[prodV x, .pointer (some ⟨B, 0, none⟩)] w fun e w' => e = .returned (.bool (!p)) ∧ Below w.heap.size w w' := by
  have hB := lt_of_cell hb
  have HH := Lib.hid H
  clear H
  unfold prodV prodC at *
  go_enter Try.func95, Try.ntmps95
  go_wp2_with (refine (HH.out _ ?_).mono ?_)
  · exact ((Below.refl _ _).alloc (Nat.le_refl _) _)
  rintro e w' ⟨rfl, hB2⟩
  go_wp2
  go_ret
  exact ⟨rfl, ((Below.refl _ _).alloc (Nat.le_refl _) _).trans (hB2.mono (by simp))⟩

set_option maxRecDepth 100000 in
set_option maxHeartbeats 4000000 in
theorem indexProd_any (a : Option Addr) (c : Nat) (l : List ProdM) (q : ProdM → Bool) (K : Nat) (lb : Array Value) (eg : ∀ args w, (callFunc K args).run Try.prog w = .ok (.enter K args) w) (w : World)
    (hl : RowProd w a l) (hn : l.length ≤ 1048576) (H : Says prodV q l K lb w) :
    Calls Try.prog 104 #[.slice a l.length c, .func (.func K) #[] lb] w fun e w' => e = .returned (.int .i64 (firstI q l)) ∧ Below w.heap.size w w' := by
  have HL := Lib.hid hl
  have HH := Lib.hid H
  clear hl H
  obtain ⟨n, hln⟩ : ∃ n, n = l.length := ⟨_, rfl⟩
  rw [← hln] at hn ⊢
  have HN := Lib.hid hln
  clear hln
  go_enter Try.func104, Try.ntmps104
  go_wp2
  go_loopw [8] (fun i wr => ∃ (m : Nat), i = .int .i64 m ∧ m ≤ n ∧ Hid (∀ (j : Nat) y, j < m → l[j]? = some y → q y = false) ∧ Hid (Below w.heap.size w wr))
    (fun i _ => n - (intOf i).toNat)
  case atStart => exact ⟨0, rfl, Nat.zero_le _, Lib.hid (fun j y hj => by omega), Below.refl _ _⟩
  case round =>
    obtain ⟨m, rfl, hm, hS, hB⟩ := hrel
    by_cases hlt : m < n
    · have HX : Hid (∃ x, l[m]? = some x) := Lib.hid ⟨_, List.getElem?_eq_getElem (by rw [← HN.out]; exact hlt)⟩
      obtain ⟨x, hx⟩ := HX.out
      have HX := Lib.hid hx
      clear hx
      obtain ⟨b, off, rfl, hbw, hc, _⟩ := HL.out m x HX.out
      have hc := hc.below hB.out hbw
      have hbr := Nat.lt_of_lt_of_le hbw hB.out.size

      obtain ⟨c0, c1, c2, c3, c4, c5, c6⟩ := Prod_at hc
      clear hc
      have HC := Lib.hid (HH.out x (List.mem_of_getElem? HX.out) wr hB.out)
      have HQ : Hid (∀ r, q x = r → r = false → ∀ (j : Nat) y, j < m + 1 → l[j]? = some y → q y = false) := Lib.hid (fun r hr hf j y hj hy => by
        by_cases e : j = m
        · subst e
          rw [HX.out] at hy
          cases hy
          rw [hr, hf]
        · exact hS.out j y (by omega) hy)
      have HT : Hid (q x = true → firstI q l = m) := Lib.hid (fun h => firstI_hit q l m x HX.out h hS.out)
      generalize q x = r at HC HQ HT
      clear HX hS HH HL
      unfold prodV prodC at *
      have n1 : (m : Int) < (n : Int) := by omega
      cases r with
      | true =>
        have HT2 := Lib.hid (HT.out rfl)
        clear HQ HT
        go_wp2_with fail
        refine HC.out.mono ?_
        rintro e w3 ⟨rfl, hB3⟩
        have HB3 := Lib.hid (hB.out.trans (hB3.mono hB.out.size))
        clear hB3
        go_wp2
        go_ret
        exact ⟨by rw [HT2.out]; rfl, HB3.out⟩
      | false =>
        have HQ2 := Lib.hid (HQ.out false rfl rfl)
        clear HT HQ
        go_wp2_with fail
        refine HC.out.mono ?_
        rintro e w3 ⟨rfl, hB3⟩
        have HB3 := Lib.hid (hB.out.trans (hB3.mono hB.out.size))
        clear hB3
        go_wp2
        go_roundw
        case rel => exact ⟨m + 1, by go_num, by omega, HQ2, HB3⟩
        case measure => simp [intOf]; omega
    · obtain rfl : m = n := by omega
      have HT := Lib.hid (firstI_none q l (fun j y hy => hS.out j y (by have := (List.getElem?_eq_some_iff.1 hy).1; have := HN.out; omega) hy))
      clear hS
      go_wp2
      go_ret
      exact ⟨by rw [HT.out]; rfl, hB.out⟩

set_option maxRecDepth 100000 in
set_option maxHeartbeats 1000000 in
theorem containsProd_any (a : Option Addr) (c : Nat) (l : List ProdM) (q : ProdM → Bool) (K : Nat) (lb : Array Value) (eg : ∀ args w, (callFunc K args).run Try.prog w = .ok (.enter K args) w) (w : World)
    (hl : RowProd w a l) (hn : l.length ≤ 1048576) (H : Says prodV q l K lb w) :
    Calls Try.prog 94 #[.slice a l.length c, .func (.func K) #[] lb] w fun e w' => e = .returned (.bool (l.any q)) ∧ Below w.heap.size w w' := by
  have HC := Lib.hid (indexProd_any a c l q K lb eg w hl hn H)
  have HI := firstI_any q l
  obtain ⟨i, hi⟩ : ∃ i, i = firstI q l := ⟨_, rfl⟩
  rw [← hi] at HC HI
  clear hi hl H
  generalize l.any q = r at HI ⊢
  generalize l.length = n at *
  go_enter Try.func94, Try.ntmps94
  go_wp2_with fail
  refine HC.out.mono ?_
  rintro e w3 ⟨rfl, hB3⟩
  go_wp2
  go_ret
  exact ⟨rfl, hB3⟩

set_option maxRecDepth 100000 in
set_option maxHeartbeats 1000000 in
theorem allProd_any (a : Option Addr) (c : Nat) (l : List ProdM) (p : ProdM → Bool) (K : Nat) (lb : Array Value) (eg : ∀ args w, (callFunc K args).run Try.prog w = .ok (.enter K args) w) (w : World)
    (hl : RowProd w a l) (hn : l.length ≤ 1048576) (H : Says prodV p l K lb w) :
    Calls Try.prog 78 #[.slice a l.length c, .func (.func K) #[] lb] w fun e w' => e = .returned (.bool (l.all p)) ∧ Below w.heap.size w w' := by
  have hB1 : Below w.heap.size w (w.alloc (.cells #[.func (.func K) #[] lb] 124)) := (Below.refl _ _).alloc (Nat.le_refl _) _
  have HC := Lib.hid (containsProd_any a c l (fun x => !p x) 95 #[.pointer (some ⟨w.heap.size, 0, none⟩)] (fun _ _ => by kernel_rfl) (w.alloc (.cells #[.func (.func K) #[] lb] 124)) (RowProd.below hl hB1) hn (fun x hx W hW =>
    notProd_any x (p x) K lb eg _ W (by have hb := Blk.new w 124 #[.func (.func K) #[] lb]; exact (hb.below hW hb.lt).cell 0) (fun V hV => H x hx V (hB1.trans ((hW.trans (hV.mono hW.size)).mono (by simp))))))
  have HA := any_not p l
  have HB := Lib.hid hB1
  clear hl H hB1
  generalize l.any (fun x => !p x) = r at HC HA
  rw [← HA]
  clear HA
  generalize l.length = n at *
  go_enter Try.func78, Try.ntmps78
  go_wp2_with fail
  refine HC.out.mono ?_
  rintro e w3 ⟨rfl, hB3⟩
  go_wp2
  go_ret
  exact ⟨rfl, HB.out.trans (hB3.mono HB.out.size)⟩
end Go.Proofs.Ytiihdbchchnncaa
