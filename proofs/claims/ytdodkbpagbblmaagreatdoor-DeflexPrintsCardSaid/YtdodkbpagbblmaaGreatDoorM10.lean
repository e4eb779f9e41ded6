import Derived.Test.YtdodkbpagbblmaaGreatDoorM9
section
namespace Go.Proofs.YtdodkbpagbblmaaGreatDoor
open Go Go.RowKit

theorem cellX_last (l : List (Wd × Int)) (x : Wd × Int) (j : Nat) (hj : j < 8) : (cellsX l ++ (wordC x.1 x.2).toList)[l.length * 8 + j]? = (wordC x.1 x.2).toList[j]? := by
  rw [List.getElem?_append_right (by rw [cellsX_length]; omega), cellsX_length, Nat.add_sub_cancel_left]

set_option maxRecDepth 100000 in
set_option maxHeartbeats 16000000 in
theorem lawPrints_any (a b : Option Addr) (ca cb : Nat) (l k : List (Wd × Int)) (w : World) (hG : GlobD w) (hl : RowW w a l) (hk : RowW w b k) (hs : Sm5 l) (hla : l.length ≤ ca) (hca : a = none → ca = 0) (hn : l.length ≤ 300) (hkn : k.length ≤ 300) :
    Calls Tryz.prog 4 #[.slice a l.length ca, .slice b k.length cb] w fun e w' => e = .returned (.bool true) ∧ Below w.heap.size w w' := by
  obtain ⟨iX, hiX, hzX0, hzX1, hzX2⟩ := info_parts Tryz.info35
  obtain ⟨r, hr⟩ : ∃ r, r = sameL l k := ⟨_, rfl⟩
  obtain ⟨s, er, hsr⟩ : ∃ s er, printR l = (s, er) := ⟨_, _, rfl⟩
  obtain ⟨n, hnn⟩ : ∃ n, n = l.length := ⟨_, rfl⟩
  obtain ⟨q, hqq⟩ : ∃ q, q = k.length := ⟨_, rfl⟩
  have HP := Lib.hid (print_of l s er hsr n hnn.symm (by omega) hs)
  have HRP := Lib.hid (rprint_of l s er hsr n hnn.symm (by omega) hs)
  have HS1 := Lib.hid (same_of l k n q r hnn.symm hqq.symm (by omega) (by omega) hr.symm)
  have HS2 := Lib.hid (rsame_of l k n q r hnn.symm hqq.symm (by omega) (by omega) hr.symm)
  have HS3 := Lib.hid (same_of k l q n r hqq.symm hnn.symm (by omega) (by omega) (by rw [sameL_comm]; exact hr.symm))
  have HW := Lib.hid (fun W hW => works_any W hW)
  have HG := Lib.hid hG
  have HD := Lib.hid hl
  have HK := Lib.hid hk
  have HX := Lib.hid hs
  have HN : Hid (l.length = n) := hnn.symm
  have HLa : Hid (a = none → ca = 0) := hca
  rw [← hnn] at hn hla ⊢
  rw [← hqq] at hkn ⊢
  have n1 : ¬ (300 : Int) < (n : Int) := by omega
  have n2 : ¬ (300 : Int) < (q : Int) := by omega
  clear hG hl hk hs hnn hqq hr hsr hca
  go_enter Tryz.func4, Tryz.ntmps4
  try simp only [List.append_eq, List.cons_append, List.nil_append]
  go_wp2
  go_loopw [5] (fun i wr => ∃ m : Nat, i = .int .i64 m ∧ m ≤ n ∧ Hid (Below w.heap.size w wr))
    (fun i _ => n - (intOf i).toNat)
  case atStart => exact ⟨0, rfl, Nat.zero_le _, Below.refl _ _⟩
  case round =>
    obtain ⟨m, rfl, hm, hB⟩ := hrel
    have hszr := hB.out.size
    by_cases hlt : m < n
    · have n3 : (m : Int) < (n : Int) := by omega
      have HXm : Hid (l[m]? = some (l[m]'(by rw [HN.out]; exact hlt))) := Lib.hid (List.getElem?_eq_getElem _)
      obtain ⟨x, hxe⟩ : ∃ x, l[m]'(by rw [HN.out]; exact hlt) = x := ⟨_, rfl⟩
      rw [hxe] at HXm
      clear hxe
      have hxs := (HX.out x (List.mem_of_getElem? HXm.out)).1
      obtain ⟨x, ax⟩ := x
      obtain ⟨g, off, rfl, hW⟩ := HD.out m _ HXm.out
      have hW := hW.below hB.out hW.lt
      have bg := hW.lt
      obtain ⟨c0, c1, c2, c3, c4, c5, c6, c7⟩ := hW
      dsimp only at c0 c1 c2 c3 c4 c5 c6 c7
      dsimp only at hxs
      have n4 : ¬ (5000 : Int) < (x.txt.size : Int) := by omega
      go_wp2
      go_roundw
      case rel => exact ⟨m + 1, by go_num, by omega, hB⟩
      case measure => simp [intOf]; omega
    · obtain rfl : m = n := by omega
      have HD0 := Lib.hid (HD.out.below hB.out)
      have HK0 := Lib.hid (HK.out.below hB.out)
      have HG0 := Lib.hid (HG.out.below (Nat.le_refl _) hB.out)
      have HB0 := hB
      obtain ⟨wa, hwa⟩ : ∃ wa : World, wa = wr := ⟨_, rfl⟩
      rw [← hwa] at HD0 HK0 HG0 HB0 ⊢
      clear hB HD HG HK hszr hwa hlt hm
      go_upto_region 8 with fail
      go_cut [6] (fun s6 wx => ∃ g c, s6 = .slice (some ⟨g, 0, none⟩) m c ∧ Hid (Sent wa.heap.size 35 8 (cellsX l) [.int .i64 0, .int .i64 77, .string ⟨#[]⟩, .int .u64 0, .int .u64 0, .int .u64 0, .int .u64 0, .int .i64 0] m g c wx) ∧ Hid (Below wa.heap.size wa wx))
      case first =>

        have hE0 := World.ownsRow_lit (base := wa.heap.size) (e := 35) (size := 8) wa #[] 0 (Nat.le_refl _) (by decide) rfl
        cases a with
        | none =>
          obtain rfl := row_none_X HD0.out
          obtain rfl : ca = 0 := HLa.out rfl
          obtain rfl : m = 0 := HN.out.symm
          go_wp2_with (first
            | (at_builtin; refine wpList_append_own _ rfl (.tmp 37) (.tmp 39) 23 rfl wa.heap.size 35 iX _ 8 72 Tryz.underlying23 hiX hzX0 hzX1 hzX2 rfl (by decide) _ _ _ rfl (hE0.alloc _) ⟨wa.heap.size + 1, 0, none⟩ 1 1 [.int .i64 0, .int .i64 77, .string ⟨#[]⟩, .int .u64 0, .int .u64 0, .int .u64 0, .int .u64 0, .int .i64 0] rfl rfl (cell_eight_next wa _ _ _ _ _ _ _ _ _ 35) (by simp [Value.oneCell']) (by unfold maxLen; omega) (by omega) (by simp; omega) ?_; intro v2 w3 hown2 hgrow2 _)
            | (at_builtin; refine wpList_append_own_none rfl (.tmp 35) (.tmp 36) 23 rfl wa.heap.size 35 iX 8 Tryz.underlying23 hiX _ _ _ rfl hE0 rfl ?_))
          have hB3 : Hid (Below wa.heap.size wa w3) := ((((Below.refl _ wa).alloc (Nat.le_refl _) _).alloc (by simp) _).grown hgrow2 (by simp; omega) (fun k e => ((hE0.alloc (.cells #[.int .i64 0, .int .i64 77, .string ⟨#[]⟩, .int .u64 0, .int .u64 0, .int .u64 0, .int .u64 0, .int .i64 0] 35)).lt k e).1))
          obtain ⟨g, c, rfl, hM⟩ := Sent.of (xs := cellsX []) (last := [.int .i64 0, .int .i64 77, .string ⟨#[]⟩, .int .u64 0, .int .u64 0, .int .u64 0, .int .u64 0, .int .i64 0]) hown2
          have hc2 : (0 : Int) ≤ (c : Int) := by omega
          have HM := Lib.hid hM
          clear hown2 hgrow2 hM hE0
          go_simp
          go_wp2_with fail
          go_meet
          exact ⟨g, c, rfl, HM, hB3⟩
        | some ad =>
          have hml := HN.out
          subst hml
          go_wp2_with (first
            | (at_builtin; refine wpList_append_own _ rfl (.tmp 37) (.tmp 39) 23 rfl wa.heap.size 35 iX _ 8 72 Tryz.underlying23 hiX hzX0 hzX1 hzX2 rfl (by decide) _ _ _ rfl (World.ownsRow.alloc hown1 _) ⟨w2.heap.size, 0, none⟩ 1 1 [.int .i64 0, .int .i64 77, .string ⟨#[]⟩, .int .u64 0, .int .u64 0, .int .u64 0, .int .u64 0, .int .i64 0] rfl rfl (cell_eight_new w2 _ _ _ _ _ _ _ _ 35) (by simp [Value.oneCell']) (by unfold maxLen; omega) (by omega) (le_alloc (Nat.le_trans (by simp) hgrow1.size) _) ?_; intro v2 w3 hown2 hgrow2 _)
            | (at_builtin; refine wpList_append_own _ rfl (.tmp 35) (.tmp 36) 23 rfl wa.heap.size 35 iX _ 8 72 Tryz.underlying23 hiX hzX0 hzX1 hzX2 rfl (by decide) _ _ _ rfl hE0 ad l.length ca (cellsX l) rfl (cellsX_length l) (fun j u hu => (World.cell?_alloc_lt wa _ _ (by have := news_X HD0.out j u hu; exact cell_lt0 this)).trans (news_X HD0.out j u hu)) (one_X l) (by unfold maxLen; omega) (by omega) (by simp) ?_; intro v1 w2 hown1 hgrow1 _))
          have hB2 : Below wa.heap.size wa w2 := ((Below.refl _ wa).alloc (Nat.le_refl _) _).grown hgrow1 (by simp) (fun k e => (hE0.lt k e).1)
          have hB3 : Hid (Below wa.heap.size wa w3) := (hB2.alloc hB2.size _).grown hgrow2 (le_alloc hB2.size _) (fun k e => (hown1.lt k e).1)
          obtain ⟨g, c, rfl, hM⟩ := Sent.of (n := l.length) (xs := cellsX l) (last := [.int .i64 0, .int .i64 77, .string ⟨#[]⟩, .int .u64 0, .int .u64 0, .int .u64 0, .int .u64 0, .int .i64 0]) (by simpa using hown2)
          have hc1 := hM.2
          have hc2 : (l.length : Int) ≤ (c : Int) := by omega
          have hc3 : (0 : Int) ≤ (l.length : Int) := by omega
          have hc4 : l.length ≤ c := by omega
          have HM := Lib.hid hM
          clear hown2 hgrow2 hown1 hgrow1 hM hE0 hB2
          go_simp
          go_wp2_with fail
          go_meet
          exact ⟨g, c, rfl, HM, hB3⟩
      case rest =>
        obtain ⟨w1, rfl⟩ : ∃ w1 : World, w1 = wc := ⟨_, rfl⟩
        obtain ⟨g, c, rfl, hM, hB⟩ := hcut
        have HD1 := Lib.hid (HD0.out.below hB.out)
        have HK1 := Lib.hid (HK0.out.below hB.out)
        have HG1 := Lib.hid (HG0.out.below (Nat.le_refl _) hB.out)
        have HB1 := Lib.hid (HB0.out.trans (hB.out.mono HB0.out.size))
        clear HD0 HK0 HG0 HB0 hB
        go_wp2_with fail
        refine (HP.out w1 _ c HG1.out (hM.out.rowX HN.out.symm)).mono ?_
        rintro e w2 ⟨rfl, hB2⟩
        have HM2 := Lib.hid (hM.out.below hB2 (Nat.le_refl _))
        have HD2 := Lib.hid (HD1.out.below hB2)
        have HK2 := Lib.hid (HK1.out.below hB2)
        have HG2 := Lib.hid (HG1.out.below (Nat.le_refl _) hB2)
        have HB2 := Lib.hid (HB1.out.trans (hB2.mono HB1.out.size))
        clear HD1 HK1 HG1 HB1 hB2 hM HP
        go_wp2_with fail
        refine (HRP.out w2 a ca HG2.out HD2.out).mono ?_
        rintro e w3 ⟨rfl, hB3⟩
        have HM3 := Lib.hid (HM2.out.below hB3 (Nat.le_refl _))
        have HD3 := Lib.hid (HD2.out.below hB3)
        have HK3 := Lib.hid (HK2.out.below hB3)
        have HG3 := Lib.hid (HG2.out.below (Nat.le_refl _) hB3)
        have HB3 := Lib.hid (HB2.out.trans (hB3.mono HB2.out.size))
        clear HD2 HK2 HG2 HB2 hB3 HM2 HRP
        go_wp2
        go_loopw [11] (fun i wr => ∃ j : Nat, i = .int .i64 j ∧ j ≤ m ∧ Hid (Below w3.heap.size w3 wr))
          (fun i _ => m - (intOf i).toNat)
        case atStart => exact ⟨0, rfl, Nat.zero_le _, Below.refl _ _⟩
        case round =>
          obtain ⟨j, rfl, hj, hB⟩ := hrel
          by_cases hlt : j < m
          · have n3 : (j : Int) < (m : Int) := by omega
            have HXm : Hid (l[j]? = some (l[j]'(by rw [HN.out]; exact hlt))) := Lib.hid (List.getElem?_eq_getElem _)
            obtain ⟨x, hxe⟩ : ∃ x, l[j]'(by rw [HN.out]; exact hlt) = x := ⟨_, rfl⟩
            rw [hxe] at HXm
            clear hxe
            obtain ⟨x, ax⟩ := x
            obtain ⟨g0, off, rfl, hW⟩ := HD3.out j _ HXm.out
            obtain ⟨g1, o1, hg1, hV⟩ := (HM3.out.rowX HN.out.symm) j _ HXm.out
            obtain ⟨rfl, rfl⟩ : g = g1 ∧ 0 = o1 := by cases hg1; exact ⟨rfl, rfl⟩
            clear hg1
            rw [Nat.zero_add] at hV
            have hW := hW.below hB.out hW.lt
            have hV := hV.below hB.out hV.lt
            have bg := hW.lt
            have bh := hV.lt
            obtain ⟨c0, c1, c2, c3, c4, c5, c6, c7⟩ := hW
            obtain ⟨d0, d1, d2, d3, d4, d5, d6, d7⟩ := hV
            dsimp only at c0 c1 c2 c3 c4 c5 c6 c7 d0 d1 d2 d3 d4 d5 d6 d7
            have HE := fun w' => eq_selfA x ax ax rfl w'
            unfold wordC at HE
            clear HXm
            go_wp2
            go_quiet (fail)
            go_wp2
            go_roundw
            case rel => exact ⟨j + 1, by go_num, by omega, hB.out.trans ⟨rfl, rfl, rfl, Nat.le_refl _, fun _ _ => rfl⟩⟩
            case measure => simp [intOf]; omega
          · obtain rfl : j = m := by omega
            have HM4 := Lib.hid (HM3.out.below hB.out (Nat.le_refl _))
            have HD4 := Lib.hid (HD3.out.below hB.out)
            have HK4 := Lib.hid (HK3.out.below hB.out)
            have HG4 := Lib.hid (HG3.out.below (Nat.le_refl _) hB.out)
            have HB4 := Lib.hid (HB3.out.trans (hB.out.mono HB3.out.size))
            have hcc := HM4.out.2
            have hcc2 : (j : Int) + 1 ≤ (c : Int) := by omega
            have hg := HM4.out.lt
            have e77 : wr.cell? ⟨g, j * 8 + 1, none⟩ = some (.int .i64 77) := by
              rw [HM4.out.cells (j * 8 + 1) (by omega), List.getElem?_append_right (by rw [cellsX_length, HN.out]; omega), cellsX_length, HN.out, Nat.add_sub_cancel_left]
              rfl
            have hss : (s.toList == s.toList) = true := by simp
            have hee : (er == er) = true := by simp
            clear HM3 HD3 HK3 HG3 HB3 hB HM4 hj hlt
            cases r with
            | true =>
              go_wp2_with (go_at_call 9; refine (num_any _ _).mono ?_; rintro e w' ⟨rfl, rfl⟩)
              refine (HS1.out wr a b ca cb HD4.out HK4.out).mono ?_
              rintro e w5 ⟨rfl, hB5⟩
              have HD5 := Lib.hid (HD4.out.below hB5)
              have HK5 := Lib.hid (HK4.out.below hB5)
              have HG5 := Lib.hid (HG4.out.below (Nat.le_refl _) hB5)
              have HB5 := Lib.hid (HB4.out.trans (hB5.mono HB4.out.size))
              clear HD4 HK4 HG4 HB4 hB5 e77 HS1
              go_wp2_with fail
              refine (HS2.out w5 a b ca cb HD5.out HK5.out).mono ?_
              rintro e w6 ⟨rfl, hB6⟩
              have HD6 := Lib.hid (HD5.out.below hB6)
              have HK6 := Lib.hid (HK5.out.below hB6)
              have HG6 := Lib.hid (HG5.out.below (Nat.le_refl _) hB6)
              have HB6 := Lib.hid (HB5.out.trans (hB6.mono HB5.out.size))
              clear HD5 HK5 HG5 HB5 hB6
              go_wp2_with fail
              refine (HS3.out w6 b a cb ca HK6.out HD6.out).mono ?_
              rintro e w7 ⟨rfl, hB7⟩
              have HD7 := Lib.hid (HD6.out.below hB7)
              have HK7 := Lib.hid (HK6.out.below hB7)
              have HG7 := Lib.hid (HG6.out.below (Nat.le_refl _) hB7)
              have HB7 := Lib.hid (HB6.out.trans (hB7.mono HB6.out.size))
              clear HD6 HK6 HG6 HB6 hB7 HS3
              go_wp2_with fail
              refine (HS2.out w7 a b ca cb HD7.out HK7.out).mono ?_
              rintro e w8 ⟨rfl, hB8⟩
              have HG8 := Lib.hid (HG7.out.below (Nat.le_refl _) hB8)
              have HB8 := Lib.hid (HB7.out.trans (hB8.mono HB7.out.size))
              clear HD7 HK7 HG7 HB7 hB8 HS2
              go_wp2_with fail
              refine (HW.out w8 HG8.out).mono ?_
              rintro e w9 ⟨rfl, hB9⟩
              have HB9 := Lib.hid (HB8.out.trans (hB9.mono HB8.out.size))
              clear HG8 HB8 hB9
              go_wp2
              go_ret
              exact ⟨rfl, HB9.out⟩
            | false =>
              go_wp2_with (go_at_call 9; refine (num_any _ _).mono ?_; rintro e w' ⟨rfl, rfl⟩)
              refine (HS1.out wr a b ca cb HD4.out HK4.out).mono ?_
              rintro e w5 ⟨rfl, hB5⟩
              have HD5 := Lib.hid (HD4.out.below hB5)
              have HK5 := Lib.hid (HK4.out.below hB5)
              have HG5 := Lib.hid (HG4.out.below (Nat.le_refl _) hB5)
              have HB5 := Lib.hid (HB4.out.trans (hB5.mono HB4.out.size))
              clear HD4 HK4 HG4 HB4 hB5 e77 HS1
              go_wp2_with fail
              refine (HS2.out w5 a b ca cb HD5.out HK5.out).mono ?_
              rintro e w6 ⟨rfl, hB6⟩
              have HD6 := Lib.hid (HD5.out.below hB6)
              have HK6 := Lib.hid (HK5.out.below hB6)
              have HG6 := Lib.hid (HG5.out.below (Nat.le_refl _) hB6)
              have HB6 := Lib.hid (HB5.out.trans (hB6.mono HB5.out.size))
              clear HD5 HK5 HG5 HB5 hB6
              go_wp2_with fail
              refine (HS3.out w6 b a cb ca HK6.out HD6.out).mono ?_
              rintro e w7 ⟨rfl, hB7⟩
              have HD7 := Lib.hid (HD6.out.below hB7)
              have HK7 := Lib.hid (HK6.out.below hB7)
              have HG7 := Lib.hid (HG6.out.below (Nat.le_refl _) hB7)
              have HB7 := Lib.hid (HB6.out.trans (hB7.mono HB6.out.size))
              clear HD6 HK6 HG6 HB6 hB7 HS3
              go_wp2_with fail
              refine (HS2.out w7 a b ca cb HD7.out HK7.out).mono ?_
              rintro e w8 ⟨rfl, hB8⟩
              have HG8 := Lib.hid (HG7.out.below (Nat.le_refl _) hB8)
              have HB8 := Lib.hid (HB7.out.trans (hB8.mono HB7.out.size))
              clear HD7 HK7 HG7 HB7 hB8 HS2
              go_wp2_with fail
              refine (HW.out w8 HG8.out).mono ?_
              rintro e w9 ⟨rfl, hB9⟩
              have HB9 := Lib.hid (HB8.out.trans (hB9.mono HB8.out.size))
              clear HG8 HB8 hB9
              go_wp2
              go_ret
              exact ⟨rfl, HB9.out⟩

/-- The law, whole. -/
theorem lawPrints (a : Option Addr) (ca : Nat) (l : List (Wd × Int)) (n : Nat) (hn : l.length = n) (b : Option Addr) (cb : Nat) (k : List (Wd × Int)) (q : Nat) (hq : k.length = q) (w : World) (hG : GlobD w) (hl : RowW w a l) (hk : RowW w b k)
    (hs : ∀ x ∈ l, x.1.txt.size ≤ maxLen ∧ -9223372036854775808 ≤ x.1.num ∧ x.1.num ≤ 9223372036854775807) (hla : n ≤ ca) (hca : a = none → ca = 0) :
    Calls Tryz.prog 4 #[.slice a n ca, .slice b q cb] w fun e w' => e = .returned (.bool true) ∧ Below w.heap.size w w' := by
  subst hn
  subst hq
  by_cases h : 300 < l.length ∨ 300 < k.length
  · exact lawPrints_big a b ca cb l k w hG h
  · have h1 : l.length ≤ 300 := by omega
    have h2 : k.length ≤ 300 := by omega
    by_cases hx : ∃ x ∈ l, 5000 < x.1.txt.size
    · exact lawPrints_long a b ca cb l k w hG hl h1 h2 hx
    · refine lawPrints_any a b ca cb l k w hG hl hk (fun x hxm => ⟨?_, (hs x hxm).2⟩) hla hca h1 h2
      refine Nat.le_of_not_lt fun hb => hx ⟨x, hxm, hb⟩
end Go.Proofs.YtdodkbpagbblmaaGreatDoor
end
