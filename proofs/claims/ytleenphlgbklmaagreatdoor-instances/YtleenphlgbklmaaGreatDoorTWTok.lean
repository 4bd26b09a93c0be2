import Derived.Test.YtleenphlgbklmaaGreatDoorTTokSwA
import Derived.Test.YtleenphlgbklmaaGreatDoorTTokSwB
import Derived.Test.YtleenphlgbklmaaGreatDoorTTokSwC
import Derived.Test.YtleenphlgbklmaaGreatDoorTTokSwD
set_option linter.unusedVariables false
set_option linter.unusedSimpArgs false
namespace Go.Proofs.YtleenphlgbklmaaGreatDoor
open Go.RowKit

theorem sw_any (s : ByteArray) (i : Nat) : SwS s i := by
  by_cases hlt : i < s.size
  · cases hl : lowI (chr s i)
    · cases hf : figI (chr s i)
      · by_cases ha : chr s i = 45 ∧ i + 1 < s.size ∧ chr s (i + 1) = 62
        · exact sw_arr s i hlt hl hf ha
        · by_cases hsg : isSign (chr s i) = true
          · have hs6 : chr s i = 61 ∨ chr s i = 40 ∨ chr s i = 41 ∨ chr s i = 44 ∨ chr s i = 91 ∨ chr s i = 93 := by simpa [isSign, or_assoc] using hsg
            rcases hs6 with e | e | e | e | e | e
            · exact sw_sign61 s i hlt hl hf ha hsg e
            · exact sw_sign40 s i hlt hl hf ha hsg e
            · exact sw_sign41 s i hlt hl hf ha hsg e
            · exact sw_sign44 s i hlt hl hf ha hsg e
            · exact sw_sign91 s i hlt hl hf ha hsg e
            · exact sw_sign93 s i hlt hl hf ha hsg e
          · by_cases c45 : chr s i = 45
            · by_cases hlt3 : i + 1 < s.size
              · exact sw_none1 s i hlt hl hf ha hsg c45 hlt3
              · exact sw_none2 s i hlt hl hf ha hsg c45 hlt3
            · exact sw_none3 s i hlt hl hf ha hsg c45
      · exact sw_fig s i hlt hl hf
    · exact sw_low s i hlt hl
  · exact sw_end s i hlt

set_option maxRecDepth 20000 in
set_option maxHeartbeats 20000000 in
theorem tokens_any (s : ByteArray) (kws : List ByteArray) (hs : s.size ≤ 300) (hkl : kws.length ≤ 100) (w : World) (kb kcap : Nat) (hkb : kb < w.heap.size) (hkw : ∀ j, j < kws.length → w.cell? ⟨kb, j, none⟩ = some (.string (kws.getD j { data := #[] }))) :
    Calls Tryz.prog 38 #[.string s, .slice (some ⟨kb, 0, none⟩) kws.length kcap] w fun e w' => ∃ g cap, e = .returned (.slice (some ⟨g, 0, none⟩) (toksF s kws (s.size + 1) 0).length cap) ∧ Below w.heap.size w w' ∧
      w'.ownsRow w.heap.size 151 3 (.slice (some ⟨g, 0, none⟩) (toksF s kws (s.size + 1) 0).length cap) (toksF s kws (s.size + 1) 0).length (flat (toksF s kws (s.size + 1) 0)) := by
  obtain ⟨i73, hi73, hz0, hz1, hz2⟩ := info_parts Tryz.info151
  obtain ⟨L, hL⟩ : ∃ L, L = toksF s kws (s.size + 1) 0 := ⟨_, rfl⟩
  rw [← hL]
  have HL : Hid (L = toksF s kws (s.size + 1) 0) := hL
  clear hL
  go_enter Tryz.func38, Tryz.ntmps38
  go_wp2
  go_loopg [5, 6] (s.size + 1) (fun m ov iv wr => ∃ (q : Nat) (acc : List Tk), q ≤ s.size ∧ s.size + 1 ≤ q + m ∧ iv = .int .i64 q ∧ L = acc ++ toksF s kws m q ∧ wr.ownsRow w.heap.size 151 3 ov acc.length (flat acc) ∧ Below w.heap.size w wr ∧ acc.length + m ≤ s.size + 1)
  case atStart => exact ⟨0, [], by omega, by omega, rfl, by rw [HL.out]; rfl, World.ownsRow_nil _ _ _ _, Below.refl _ _, by simp⟩
  case round =>
    clear HL
    obtain ⟨q, acc, hq, hm, rfl, hLa, hown, hbel, hal⟩ := hrel
    have HLA : Hid (L = acc ++ toksF s kws gk q) := hLa
    clear hLa
    go_upto_block 2 with (fail)
    go_cut [6] (fun v wx => v = .int .i64 (run blI s q : Nat) ∧ wx = wr)
    case first =>
      clear hown hbel HLA hal hkw
      go_wp2_with fail
      go_loop [6] (fun v => ∃ j : Nat, v = .int .i64 j ∧ j ≤ s.size ∧ run blI s j = run blI s q) (fun v => s.size - (intOf v).toNat)
      case atStart => exact ⟨q, rfl, hq, rfl⟩
      case round =>
        obtain ⟨j, rfl, hj, hrj⟩ := hrel
        have HR : Hid (run blI s j = run blI s q) := hrj
        clear hrj
        by_cases hlt : j < s.size
        · have hc := chr_eq s j hlt
          have hst := run_step blI s j hlt
          have hsp := run_stop blI s j
          by_cases c1 : chr s j = 32
          · have E : Hid (run blI s (j + 1) = run blI s q) := by show _ = _; rw [← hst (by simp [blI, c1])]; exact HR.out
            have d1 : (chr s j == 32) = true := by simp [c1]
            clear hst hsp c1 HR
            go_wp2
            go_round
            case rel => exact ⟨j + 1, by go_num, by omega, E.out⟩
            case measure => simp [intOf]; omega
          · by_cases c2 : chr s j = 10
            · have E : Hid (run blI s (j + 1) = run blI s q) := by show _ = _; rw [← hst (by simp [blI, c2])]; exact HR.out
              have d1 : (chr s j == 32) = false := by simp [c1]
              have d2 : (chr s j == 10) = true := by simp [c2]
              clear hst hsp c1 c2 HR
              go_wp2
              go_round
              case rel => exact ⟨j + 1, by go_num, by omega, E.out⟩
              case measure => simp [intOf]; omega
            · have E : Hid (j = run blI s q) := by show _ = _; rw [← HR.out, hsp (fun _ => by simp [blI, c1, c2])]
              have d1 : (chr s j == 32) = false := by simp [c1]
              have d2 : (chr s j == 10) = false := by simp [c2]
              clear hst hsp c1 c2 HR
              go_wp2
              go_meet
              case rel => exact ⟨by rw [← E.out], rfl⟩
        · have E : Hid (j = run blI s q) := by show _ = _; rw [← HR.out, run_stop blI s j (fun h => absurd h hlt)]
          clear HR
          go_wp2
          go_meet
          case rel => exact ⟨by rw [← E.out], rfl⟩
    case rest =>
      obtain ⟨rfl, hwc⟩ := hcut
      subst hwc
      obtain ⟨w0, hw0⟩ : ∃ w0 : World, w0 = wc := ⟨_, rfl⟩
      subst hw0
      have hri := run_le blI s q hq
      have hrg := run_ge blI s q
      have hend := run_end blI s q hq
      obtain ⟨i, hii⟩ : ∃ i, i = run blI s q := ⟨_, rfl⟩
      rw [← hii] at hri hrg hend ⊢
      have HI : Hid (i = run blI s q) := hii
      clear hii
      have hT : (w0.alloc (.cells #[.string { data := #[110, 111, 110, 101] }, .string { data := #[] }, .int .i64 i] 151)).heap[w0.heap.size]? = some (.cells #[.string { data := #[110, 111, 110, 101] }, .string { data := #[] }, .int .i64 i] 151 (0, 0)) := heap_alloc_new _ _
      have hB1 : Below w0.heap.size w0 (w0.alloc (.cells #[.string { data := #[110, 111, 110, 101] }, .string { data := #[] }, .int .i64 i] 151)) := (Below.refl _ _).alloc (Nat.le_refl _) _
      go_upto_block 4 with (fail)
      go_cut [8] (fun v wx => v = .int .i64 (clsK s i : Nat) ∧ wx.heap[w0.heap.size]? = some (.cells #[.string (clsI s i), .string { data := #[] }, .int .i64 i] 151 (0, 0)) ∧ Below w0.heap.size w0 wx)
      case first =>
        clear hown hbel HLA hal hkw HI
        rename_i J K1 hJ hK1
        refine sw_any s i w0 _ _ _ _ _ _ _ _ _ _ _ _ _ _ _ _ _ _ _ _ _ _ _ _ _ _ _ _ _ _ _ _ _ _ _ _ _ _ _ _ _ _ _ _ _ _ _ _ _ _ _ _ _ _ _ _ _ _ _ _ _ _ _ _ _ _ _ _ _ _ _ _ _ _ _ _ _ _ _ _ _ _ _ _ _ _ _ _ _ _ _ _ _ _ _ _ _ _ _ _ _ _ _ _ _ _ _ _ _ _ _ _ _ _ _ _ _ _ _ _ _ _ _ _ _ _ _ _ _ _ _ _ _ _ _ _ _ _ _ _ _ _ _ _ _ _ _ _ _ _ _ _ _ _ _ _ _ _ _ _ _ _ _ _ _ _ _ _ _ _ _ _ _ _ _ _ hs hri hT hB1 ?_
        intro u8 u10 u34 u35 u36 u37 u38 u39 u40 u41 u42 u43 u44 u45 u46 u47 u48 u49 u50 u51 u52 u53 u54 u55 u56 u57 u58 u59 u60 u61 u62 u63 u64 u65 u66 u67 u68 u69 u70 u71 u72 u73 u74 u75 u76 u77 u78 u79 u80 u81 u82 u83 u84 u85 u86 u87 u88 u89 u90 u91 u92 u93 u94 u95 u96 u97 u98 u99 u100 u101 u102 u103 u104 u105 u106 u107 u108 u109 u110 u111 u112 u113 u114 u115 u116 u117 u118 u119 u120 u121 u122 u123 u124 wx h
        refine hK1 _ _ (Met.intro (hJ _ _ ?_))
        (repeat apply Exists.intro)
        exact ⟨h, rfl⟩
      case rest =>
        obtain ⟨rfl, hT, hB⟩ := hcut
        obtain ⟨hk1, hk2⟩ := clsK_bounds s i hri
        obtain ⟨k, hkk⟩ : ∃ k, k = clsK s i := ⟨_, rfl⟩
        obtain ⟨a, haa⟩ : ∃ a, a = clsI s i := ⟨_, rfl⟩
        rw [← hkk] at hk1 hk2 ⊢
        rw [← haa] at hT
        have HK : Hid (k = clsK s i) := hkk
        have HA : Hid (a = clsI s i) := haa
        clear hkk haa hend
        have c1 : wc.cell? ⟨w0.heap.size, 1, none⟩ = some (.string { data := #[] }) := by simp [World.cell?, hT]
        have f1 : wc.frozen? ⟨w0.heap.size, 1, none⟩ = false := by simp [World.frozen?, hT]
        have hT2 : (wc.setCell ⟨w0.heap.size, 1, none⟩ (.string (s.extract i k))).heap[w0.heap.size]? = some (.cells #[.string a, .string (s.extract i k), .int .i64 i] 151 (0, 0)) := by simp [World.setCell, hT, Array.getElem?_modify]
        have hB2 : Below w0.heap.size w0 (wc.setCell ⟨w0.heap.size, 1, none⟩ (.string (s.extract i k))) := hB.setCell (Nat.le_refl _) _
        go_upto_region 28 with (fail)
        generalize wc.setCell ⟨w0.heap.size, 1, none⟩ (.string (s.extract i k)) = w2 at *
        obtain ⟨x, hxx⟩ : ∃ x, x = s.extract i k := ⟨_, rfl⟩
        rw [← hxx] at hT2
        have HX : Hid (x = s.extract i k) := hxx
        clear hxx
        clear hT hB c1 f1
        have t0 : w2.cell? ⟨w0.heap.size, 0, none⟩ = some (.string a) := by simp [World.cell?, hT2]
        go_cut [143] (fun v wx => v = .bool (isNN a && decide (8 < k - i)) ∧ wx = w2)
        case first =>
          have e : isNN a = (a.toList == [110, 97, 109, 101] || a.toList == [110, 117, 109]) := by simp only [isNN, ByteArray.toList_eq]
          have HE : Hid _ := e
          clear e hown hbel HLA hal hkw HI HK HA hT2 hB2
          cases n1 : (a.toList == [110, 97, 109, 101]) <;> cases n2 : (a.toList == [110, 117, 109]) <;> by_cases h8 : 8 < k - i
          all_goals
            have E : Hid _ := HE.out
            rw [n1, n2] at E
            go_wp2_with fail
            go_meet
            case rel => exact ⟨by rw [E.out]; simp [h8] <;> omega, rfl⟩
        case rest =>
          obtain ⟨rfl, hw⟩ := hcut
          subst hw
          have f0 : wc.frozen? ⟨w0.heap.size, 0, none⟩ = false := by simp [World.frozen?, hT2]
          go_upto_if 143 with (fail)
          go_cut [8] (fun v wx => v = .int .i64 k ∧ wx.heap[w0.heap.size]? = some (.cells #[.string (clsB a (k - i)), .string x, .int .i64 i] 151 (0, 0)) ∧ Below w0.heap.size w0 wx)
          case first =>
            clear hown hbel HLA hal hkw HI HK HA
            by_cases h28 : (isNN a && decide (8 < k - i)) = true
            · have E : Hid (clsB a (k - i) = { data := #[110, 111, 110, 101] }) := by show _ = _; rw [clsB, if_pos h28]
              have hT3 : (wc.setCell ⟨w0.heap.size, 0, none⟩ (.string { data := #[110, 111, 110, 101] })).heap[w0.heap.size]? = some (.cells #[.string { data := #[110, 111, 110, 101] }, .string x, .int .i64 i] 151 (0, 0)) := by simp [World.setCell, hT2, Array.getElem?_modify]
              have hB3 := hB2.setCell (p := ⟨w0.heap.size, 0, none⟩) (Nat.le_refl _) (.string { data := #[110, 111, 110, 101] })
              rw [h28]
              clear h28
              go_wp2_with fail
              go_meet
              case rel => exact ⟨rfl, by rw [E.out]; exact hT3, hB3⟩
            · have E : Hid (clsB a (k - i) = a) := by show _ = _; rw [clsB, if_neg h28]
              have h28' : (isNN a && decide (8 < k - i)) = false := by simpa using h28
              rw [h28']
              clear h28 h28'
              go_wp2_with fail
              go_meet
              case rel => exact ⟨rfl, by rw [E.out]; exact hT2, hB2⟩
          case rest =>
            clear hT2 hB2 t0 f0
            obtain ⟨rfl, hT3, hB3⟩ := hcut
            obtain ⟨a1, ha1⟩ : ∃ a1, a1 = clsB a (k - i) := ⟨_, rfl⟩
            rw [← ha1] at hT3
            have HA1 : Hid (a1 = clsB a (k - i)) := ha1
            clear ha1
            go_wp2_with fail
            go_loopw [147] (fun v wr => ∃ j : Nat, j ≤ kws.length ∧ v = .int .i64 j ∧ wr.heap[w0.heap.size]? = some (.cells #[.string ((kws.take j).foldl (kwStep x) a1), .string x, .int .i64 i] 151 (0, 0)) ∧ Below w0.heap.size w0 wr) (fun v _ => kws.length - (intOf v).toNat)
            case atStart => exact ⟨0, Nat.zero_le _, rfl, hT3, hB3⟩
            case round =>
              clear hT3 hB3
              obtain ⟨j, hj, rfl, hTj, hBj⟩ := hrel
              by_cases hjl : j < kws.length
              · have hst : Hid ((kws.take (j + 1)).foldl (kwStep x) a1 = kwStep x ((kws.take j).foldl (kwStep x) a1) (kws.getD j { data := #[] })) := by
                  show _ = _
                  rw [List.take_succ_eq_append_getElem hjl, List.foldl_append]
                  simp [List.getD, hjl]
                have kc : wr.cell? ⟨kb, j, none⟩ = some (.string (kws.getD j { data := #[] })) := ((hBj.cell (by show kb < _; have := hbel.size; omega)).trans (hbel.cell hkb)).trans (hkw j hjl)
                have t0 : wr.cell? ⟨w0.heap.size, 0, none⟩ = some (.string ((kws.take j).foldl (kwStep x) a1)) := by simp [World.cell?, hTj]
                have t1 : wr.cell? ⟨w0.heap.size, 1, none⟩ = some (.string x) := by simp [World.cell?, hTj]
                have f0 : wr.frozen? ⟨w0.heap.size, 0, none⟩ = false := by simp [World.frozen?, hTj]
                have hT4 : (wr.setCell ⟨w0.heap.size, 0, none⟩ (.string (kws.getD j { data := #[] }))).heap[w0.heap.size]? = some (.cells #[.string (kws.getD j { data := #[] }), .string x, .int .i64 i] 151 (0, 0)) := by simp [World.setCell, hTj, Array.getElem?_modify]
                have hB4 := hBj.setCell (p := ⟨w0.heap.size, 0, none⟩) (Nat.le_refl _) (.string (kws.getD j { data := #[] }))
                generalize (kws.take j).foldl (kwStep x) a1 = cur at *
                generalize kws.getD j { data := #[] } = kw at *
                have hk1 : Hid (kwStep x cur kw = if (cur.toList == [110, 97, 109, 101] && x.toList == kw.toList) = true then kw else cur) := by simp only [Hid, kwStep, ByteArray.toList_eq]
                clear hown hkw HLA HI HK HA HA1
                cases m1 : (cur.toList == [110, 97, 109, 101]) <;> cases m2 : (x.toList == kw.toList)
                all_goals
                  have E : Hid _ := hst.out.trans hk1.out
                  rw [m1, m2] at E
                  clear hst hk1
                  go_wp2
                  go_roundw
                  case rel => exact ⟨j + 1, by omega, by go_num, by rw [E.out]; first | exact hT4 | exact hTj, by first | exact hB4 | exact hBj⟩
                  case measure => simp [intOf]; omega
              · have hjk : j = kws.length := by omega
                subst hjk
                rw [List.take_length] at hTj
                obtain ⟨fin, hfin⟩ : ∃ fin, fin = kws.foldl (kwStep x) a1 := ⟨_, rfl⟩
                rw [← hfin] at hTj
                obtain ⟨m, rfl⟩ : ∃ m, gk = m + 1 := ⟨gk - 1, by omega⟩
                have T1 : Hid (tok1 s kws i = (⟨fin, x, i⟩, k)) := by
                  show _ = _
                  rw [tok1, ← HK.out, ← HX.out, ← HA.out, ← HA1.out, ← hfin]
                have HLB : Hid (L = acc ++ (if lastT ⟨fin, x, i⟩ then [⟨fin, x, i⟩] else ⟨fin, x, i⟩ :: toksF s kws m k)) := by
                  show _ = _
                  rw [HLA.out, toksF, ← HI.out, T1.out]
                have hgt : lastT ⟨fin, x, i⟩ = false → i < k := fun hl => by
                  have := tok1_gt s kws i (by rw [T1.out]; exact hl)
                  rw [← HK.out] at this
                  exact this
                have t0 : wr.cell? ⟨w0.heap.size, 0, none⟩ = some (.string fin) := by simp [World.cell?, hTj]
                have t1 : wr.cell? ⟨w0.heap.size, 1, none⟩ = some (.string x) := by simp [World.cell?, hTj]
                have t2 : wr.cell? ⟨w0.heap.size, 2, none⟩ = some (.int .i64 i) := by simp [World.cell?, hTj]
                have hownr : wr.ownsRow w.heap.size 151 3 u5 acc.length (flat acc) := ownsRow_same hown (fun b hb => hBj.block b (hown.lt b hb).2)
                have hbr : Below w.heap.size w wr := hbel.trans (hBj.mono hbel.size)
                have htl := lt_of_block hTj
                have hwr : w.heap.size ≤ wr.heap.size := hbr.size
                have hub : ∀ g, Value.ownBlock u5 = some g → g < w0.heap.size := fun g hg => (hown.lt g hg).2
                have HT1 : Hid _ := hgt
                have HUB : Hid _ := hub
                clear T1 HLA HI HK HA HA1 HX hfin hgt hub hown hkw hbel
                go_wp2_with (at_builtin; refine wpList_append_own2 _ rfl (.tmp 163) (.tmp 165) 77 rfl w.heap.size 151 i73 (.agg #[.string { data := #[] }, .string { data := #[] }, .int .i64 0]) 3 40 Tryz.underlying77 hi73 hz0 hz1 hz2 rfl (by decide) _ _ _ rfl (hownr.alloc _) ⟨wr.heap.size, 0, none⟩ 1 1 [.string fin, .string x, .int .i64 i] rfl rfl ?c1 ?c2 ?c3 ?c4 ?c5 (by decide) ?_)
                case c1 =>
                  intro y u hy
                  match y, hy with
                  | 0, hy => simp at hy; subst hy; simp [Addr.add]
                  | 1, hy => simp at hy; subst hy; simp [Addr.add]
                  | 2, hy => simp at hy; subst hy; simp [Addr.add]
                case c2 =>
                  intro u hu
                  simp at hu
                  rcases hu with rfl | rfl | rfl <;> rfl
                case c3 => unfold maxLen; omega
                case c4 => omega
                case c5 => simp; omega
                intro g cap w3 hown3 hgrow3 hfr3
                have hx3 : w3.heap[w0.heap.size]? = some (.cells #[.string fin, .string x, .int .i64 i] 151 (0, 0)) := by
                  rw [hgrow3.block w0.heap.size (by simp; omega) (fun e => by have := HUB.out _ e.symm; omega), Below.heap_alloc _ _ _ htl]
                  exact hTj
                have s0 : w3.cell? ⟨w0.heap.size, 0, none⟩ = some (.string fin) := by simp [World.cell?, hx3]
                have hb3 : Below w.heap.size w w3 := (hbr.alloc hwr _).grown hgrow3 (by simp; omega) (fun q e => (hownr.lt q e).1)
                have hfl : flat acc ++ [.string fin, .string x, .int .i64 i] = flat (acc ++ [⟨fin, x, i⟩]) := by simp [flat, tkCells]
                rw [hfl] at hown3
                have hl2 : (acc ++ [(⟨fin, x, i⟩ : Tk)]).length = acc.length + 1 := by simp
                have HL2 : Hid _ := hl2
                have hlt2 : Hid (lastT ⟨fin, x, i⟩ = (fin.toList == [110, 111, 110, 101] || fin.toList == [101, 110, 100])) := by simp only [Hid, lastT, ByteArray.toList_eq]
                clear hx3 hgrow3 hfr3 hownr hbr hTj t0 t1 t2 hfl hl2 HUB
                cases m1 : (fin.toList == [110, 111, 110, 101])
                · cases m2 : (fin.toList == [101, 110, 100])
                  · have E : Hid (lastT ⟨fin, x, i⟩ = false) := by show _ = _; rw [hlt2.out, m1, m2]; rfl
                    have hik := HT1.out E.out
                    have HLC : Hid (L = (acc ++ [⟨fin, x, i⟩]) ++ toksF s kws m k) := by show _ = _; rw [HLB.out, E.out]; simp
                    clear HLB HT1 hlt2
                    go_wp2
                    go_roundg m
                    case measure => omega
                    case rel => exact ⟨k, acc ++ [⟨fin, x, i⟩], by omega, by omega, rfl, HLC.out, by rw [HL2.out]; exact hown3, hb3, by rw [HL2.out]; omega⟩
                  · have E : Hid (lastT ⟨fin, x, i⟩ = true) := by show _ = _; rw [hlt2.out, m1, m2]; rfl
                    have HLC : Hid (L = acc ++ [⟨fin, x, i⟩]) := by show _ = _; rw [HLB.out, E.out]; simp
                    clear HLB HT1 hlt2
                    go_wp2
                    go_ret
                    exact ⟨g, cap, ret_slice (by rw [HLC.out, HL2.out]), hb3, by rw [HLC.out, HL2.out]; exact hown3⟩
                · have E : Hid (lastT ⟨fin, x, i⟩ = true) := by show _ = _; rw [hlt2.out, m1]; rfl
                  have HLC : Hid (L = acc ++ [⟨fin, x, i⟩]) := by show _ = _; rw [HLB.out, E.out]; simp
                  clear HLB HT1 hlt2
                  go_wp2
                  go_ret
                  exact ⟨g, cap, ret_slice (by rw [HLC.out, HL2.out]), hb3, by rw [HLC.out, HL2.out]; exact hown3⟩
end Go.Proofs.YtleenphlgbklmaaGreatDoor
