import Derived.Test.YtleenphlgbklmabGreatDoorZPHb
import Derived.Test.YtleenphlgbklmabGreatDoorZPStep
set_option linter.unusedVariables false
set_option linter.unusedSimpArgs false
namespace Go.Proofs.YtleenphlgbklmabGreatDoor
open Go.RowKit

theorem fold_no (g : X → Option (Option (Nat × ByteArray))) : ∀ (xs : List X), xs.foldl (fun r x => sqF r (g x)) none = none
  | [] => rfl
  | x :: xs => by simpa [sqF] using fold_no g xs
theorem fold_er (g : X → Option (Option (Nat × ByteArray))) (e : Nat × ByteArray) : ∀ (xs : List X), xs.foldl (fun r x => sqF r (g x)) (some (some e)) = some (some e)
  | [] => rfl
  | x :: xs => by simpa [sqF] using fold_er g e xs
theorem fold_cons (g : X → Option (Option (Nat × ByteArray))) {x : X} {xs : List X} {r : Option (Nat × ByteArray)} (h : (x :: xs).foldl (fun r x => sqF r (g x)) (some none) = some r) : ∃ r1, g x = some r1 ∧ ((r1 = r ∧ r ≠ none) ∨ (r1 = none ∧ xs.foldl (fun r x => sqF r (g x)) (some none) = some r)) := by
  have e : ∀ b, sqF (some none) b = b := fun _ => rfl
  rw [List.foldl_cons, e] at h
  cases hg : g x with
  | none =>
    rw [hg, fold_no g] at h
    cases h
  | some r1 =>
    refine ⟨r1, rfl, ?_⟩
    rw [hg] at h
    cases r1 with
    | none => exact .inr ⟨rfl, h⟩
    | some e =>
      rw [fold_er g e] at h
      simp only [Option.some.injEq] at h
      exact .inl ⟨h, by rw [← h]; simp⟩
/-- what the walk over a group's values holds. -/
structure CGI (w : World) (ad : List Nat) (own : List Bd) (gv : Gv) (gm : Nat) (wr : World) (q : Option Addr) : Prop where
  kept : Kept w wr
  blk : wr.heap[w.heap.size]? = some (.cells #[.pointer q, .map (some gm)] 168 (0, 0))
  ci : CI wr ad own gv q gm
theorem CGI.step {w : World} {ad : List Nat} {own : List Bd} {gv : Gv} {gm : Nat} {wr w2 : World} {q : Option Addr} (h : CGI w ad own gv gm wr q) (k : Kept wr w2) : CGI w ad own gv gm w2 q := ⟨h.kept.trans k, k.blk h.blk, h.ci.kept k⟩
set_option maxRecDepth 20000 in
set_option maxHeartbeats 4000000 in
theorem chkg_sx {gv : Gv} {f : X → List Bd → Option (Option (Nat × ByteArray))} (hf : SCk gv f) {names : List ByteArray} {vs : List X} {y : X} {own : List Bd} {r : Option (Nat × ByteArray)} (h : grpC f names (vs ++ [y]) own = some r) {w : World} {ad : List Nat} {p : Option Addr} {gm eb ng ncap gx cap : Nat} {q : Value} {dpt : Int} {ps : List Value}
    (hb : w.heap[eb]? = some (.cells #[.int .i64 dpt, .slice (some ⟨ng, 0, none⟩) names.length ncap, .slice (some ⟨gx, 0, none⟩) ps.length cap, q] 291 (0, 0))) (hl : ps.length = vs.length) (hln : names.length = vs.length) {cur ncur : Array Value} (hx : w.heap[gx]? = some (.cells cur 107 (0, 0))) (hps : ∀ j (h : j < ps.length), cur[j]? = some ps[j]) (hn : w.heap[ng]? = some (.cells ncur 9 (0, 0))) (hns : ∀ j (h : j < names.length), ncur[j]? = some (.string names[j])) (hpx : ∀ j (h : j < vs.length) (h2 : j < ps.length), PX w (fun _ => True) vs[j] ps[j]) (hy : PX w (fun _ => True) y q) (hT : CI w ad own gv p gm) :
    Calls Tryz.prog 105 #[.pointer (some ⟨eb, 0, none⟩), .agg #[.pointer p, .map (some gm)]] w (ChO w r) := by
  have hmn : names.length ≤ 1000000 := by
    by_cases hc : names.length ≤ 1000000
    · exact hc
    · simp [grpC, hc] at h
  simp only [grpC, hmn, if_true] at h
  have hm : ps.length ≤ 1000000 := by omega
  generalize hG : grpF names (List.replicate names.length .int) own = G at h
  obtain ⟨Ty, uy, rfl⟩ := hy.iface
  obtain ⟨hF, hk0⟩ := fc_start w eb p gm hb
  have hsz : (w.alloc (.cells #[.pointer p, .map (some gm)] 168)).drew.heap.size = w.heap.size + 1 := by simp
  have hmk := run_make_row' (P := Tryz.prog) 273 77 .nilIface 16 Tryz.underlying273 Tryz.infoTypI rfl .i64 .i64 names.length (by omega) (by omega) (w.alloc (.cells #[.pointer p, .map (some gm)] 168)).drew
  rw [hsz] at hmk
  have hbm := heap_alloc_new (w.alloc (.cells #[.pointer p, .map (some gm)] 168)).drew (.cells (madeCells #[.nilIface] names.length) 77)
  rw [hsz, made_rep] at hbm
  rw [made_rep] at hmk
  generalize hW : w.alloc (.cells #[.pointer p, .map (some gm)] 168) = W at *
  have hkm : Kept W (W.drew.alloc (.cells (List.replicate names.length Value.nilIface).toArray 77)) := (Kept.drew W).trans (Kept.alloc _ _)
  generalize W.drew.alloc (.cells (List.replicate names.length Value.nilIface).toArray 77) = M at *
  have hFm := hF.kept hkm
  have hkM := hk0.trans hkm
  have HC : Hid (Calls Tryz.prog 141 #[.agg #[.pointer p, .map (some gm)], .slice (some ⟨ng, 0, none⟩) names.length ncap, .slice (some ⟨w.heap.size + 1, 0, none⟩) names.length names.length] M fun e w2 => ∃ q2, e = .returned (.agg #[.pointer q2, .map (some gm)]) ∧ w2.cell? ⟨w.heap.size, 0, none⟩ = some (.pointer p) ∧ w2.cell? ⟨w.heap.size, 1, none⟩ = some (.map (some gm)) ∧ w2.cell? ⟨eb, 1, none⟩ = some (.slice (some ⟨ng, 0, none⟩) names.length ncap) ∧ w2.frozen? ⟨w.heap.size, 0, none⟩ = false ∧ w2.frozen? ⟨w.heap.size, 1, none⟩ = false ∧
      Hid (CGI w ad G gv gm ((w2.setCell ⟨w.heap.size, 0, none⟩ (.pointer q2)).setCell ⟨w.heap.size, 1, none⟩ (.map (some gm))) q2)) := by
    refine (withg_any (R := fun _ _ => True) (ts := List.replicate names.length .int) (vals := List.replicate names.length Value.nilIface) (own := own) (by simp) (by simp) hmn (fun j hj => cell_of (hkM.blk hn) (hns j hj)) (fun j hj => cell_of hbm (by simp only [List.length_replicate] at hj; simp [hj])) (fun v hv => .inl (List.eq_of_mem_replicate hv)) (fun _ _ _ => trivial) (hT.kept hkM).ch).mono ?_
    rintro e w2 ⟨q2, rfl, hc2, hk2⟩
    have hF2 := hFm.kept hk2
    refine ⟨q2, rfl, hF2.c.1, hF2.c.2, hF2.x (i := 1) rfl, by simp [World.frozen?, hF2.sc], by simp [World.frozen?, hF2.sc], ?_⟩
    rw [hG] at hc2
    have hk3 := hkM.trans hk2
    refine ⟨set2_kept hk3 (Nat.le_refl _) _ _, set2_at hF2.sc _ _, set2_ch hF2.sc hc2 _ _, ?_⟩
    exact hT.gm.kt (Kt.of_kept (ad := ad) (S := fun _ => False) (set2_kept hk3 (Nat.le_refl _) (.pointer q2) (.map (some gm)))) id
  obtain ⟨c0, c1⟩ := hF.c
  have c2 := hF.x (i := 1) (v := .slice (some ⟨ng, 0, none⟩) names.length ncap) rfl
  obtain ⟨d0, d1⟩ := hFm.c
  have d2 := hFm.x (i := 1) (v := .slice (some ⟨ng, 0, none⟩) names.length ncap) rfl
  have HH : Hid _ := h
  have HB : Hid _ := hb
  have HX : Hid (w.heap[gx]? = some (.cells cur 107 (0, 0)) ∧ ∀ j (h : j < ps.length), cur[j]? = some ps[j]) := ⟨hx, hps⟩
  have HP : Hid _ := hpx
  have HY : Hid _ := hy
  have HFf : Hid _ := hf
  have HL : Hid _ := hl
  clear h hb hx hps hpx hy hf hl hF hFm hkm hkM hk0 hT hn hns hbm hG hln hsz
  go_enter Tryz.func105, Tryz.ntmps105
  go_wp2_with fail
  go_cut [17] (fun v wx => ∃ q2, v = .agg #[.pointer q2, .map (some gm)] ∧ Hid (CGI w ad G gv gm wx q2))
  case first =>
    go_region_with (go_at_call 141; refine Calls.mono HC.out ?_; rintro e w2 ⟨q2, rfl, e0, e1, e2, e3, e4, HD⟩; clear HC)
    all_goals
      go_wp2_with fail
      go_meet
      case rel => exact ⟨q2, rfl, HD⟩
  case rest =>
    obtain ⟨q2, rfl, HD⟩ := hcut
    clear HC
    have c3 : wc.cell? ⟨eb, 2, none⟩ = some (.slice (some ⟨gx, 0, none⟩) ps.length cap) := cell_of (HD.out.kept.blk HB.out) rfl
    clear c0 c1 c2 d0 d1 d2 hmk
    go_wp2_with fail
    clear c3
    go_loopw [23] (fun i wr => ∃ j : Nat, j ≤ ps.length ∧ i = .int .i64 j ∧ Hid (CGI w ad G gv gm wr q2 ∧ ((vs ++ [y]).drop j).foldl (fun r x => sqF r (f x G)) (some none) = some r)) (fun i _ => ps.length - (intOf i).toNat)
    case atStart => exact ⟨0, Nat.zero_le _, rfl, HD.out, HH.out⟩
    case round =>
      obtain ⟨j, hj, rfl, HJ⟩ := hrel
      obtain ⟨hC, hfo⟩ := HJ.out
      have c0 : wr.cell? ⟨w.heap.size, 0, none⟩ = some (.pointer q2) := cell_of hC.blk rfl
      have c1 : wr.cell? ⟨w.heap.size, 1, none⟩ = some (.map (some gm)) := cell_of hC.blk rfl
      by_cases hlt : j < ps.length
      · have hlv : j < vs.length := by rw [← HL.out]; exact hlt
        have hdr : (vs ++ [y]).drop j = vs[j] :: (vs ++ [y]).drop (j + 1) := by
          rw [List.drop_eq_getElem_cons (by simp; omega)]
          congr 1
          exact List.getElem_append_left hlv
        rw [hdr] at hfo
        obtain ⟨r1, hr1, hcase⟩ := fold_cons (fun x => f x G) hfo
        have cx : wr.cell? ⟨gx, j, none⟩ = some ps[j] := cell_of (hC.kept.blk HX.out.1) (HX.out.2 j hlt)
        have hpx := HP.out j hlv hlt
        obtain ⟨Tx, ux, hxv⟩ := hpx.iface
        rw [hxv] at cx hpx
        have HC : Hid (Calls Tryz.prog 72 #[.iface Tx ux, .agg #[.pointer q2, .map (some gm)]] wr fun e w3 => (∃ b, e = thrown (.iface 84 (.pointer (some ⟨b, 0, none⟩))) ∧ ChO w r (thrown (.iface 84 (.pointer (some ⟨b, 0, none⟩)))) w3) ∨ (e = .returned (.tuple #[]) ∧ Hid (CGI w ad G gv gm w3 q2 ∧ ((vs ++ [y]).drop (j + 1)).foldl (fun r x => sqF r (f x G)) (some none) = some r))) := by
          refine (HFf.out _ G r1 hr1 wr ad _ q2 gm (hpx.keepT (XKeep.kept hC.kept)) hC.ci).mono ?_
          intro e w3 hE
          rcases hE.split with ⟨q, b, hq, rfl, hE⟩ | ⟨hq, rfl, hk⟩
          · rcases hcase with ⟨rfl, _⟩ | ⟨h0, _⟩
            · exact .inl ⟨b, rfl, hE.pre hC.kept⟩
            · rw [h0] at hq; cases hq
          · rcases hcase with ⟨h0, hn⟩ | ⟨_, h0⟩
            · exact absurd (h0.symm.trans hq) hn
            · exact .inr ⟨rfl, hC.step hk, h0⟩
        clear hC hfo hdr hr1 hcase hpx hxv HJ HH HB HX HP HY HFf HL HD
        go_wp2_with fail
        refine Calls.mono HC.out ?_
        rintro e w3 (⟨b, rfl, hE⟩ | ⟨rfl, HN⟩)
        · go_wp2
          exact ⟨rfl, hE⟩
        · clear HC
          go_wp2
          go_roundw
          case measure => simp [intOf]; omega
          case rel => exact ⟨j + 1, hlt, by go_num, HN⟩
      · have hje : j = vs.length := by rw [← HL.out]; omega
        have hdr : (vs ++ [y]).drop j = [y] := by rw [hje]; simp
        rw [hdr] at hfo
        obtain ⟨r1, hr1, hcase⟩ := fold_cons (fun x => f x G) hfo
        have c3 : wr.cell? ⟨eb, 3, none⟩ = some (.iface Ty uy) := cell_of (hC.kept.blk HB.out) rfl
        have HC : Hid (Calls Tryz.prog 72 #[.iface Ty uy, .agg #[.pointer q2, .map (some gm)]] wr.drew fun e w3 => (∃ b, e = thrown (.iface 84 (.pointer (some ⟨b, 0, none⟩))) ∧ ChO w r (thrown (.iface 84 (.pointer (some ⟨b, 0, none⟩)))) w3) ∨ (e = .returned (.tuple #[]) ∧ w3.cell? ⟨w.heap.size, 0, none⟩ = some (.pointer q2) ∧ w3.cell? ⟨w.heap.size, 1, none⟩ = some (.map (some gm)) ∧ w3.cell? ⟨eb, 3, none⟩ = some (.iface Ty uy) ∧ Hid (ChO w r (.returned (.tuple #[])) w3))) := by
          have hC := hC.step (Kept.drew wr)
          refine (HFf.out _ G r1 hr1 wr.drew ad _ q2 gm (PX.keepT (XKeep.kept hC.kept) HY.out) hC.ci).mono ?_
          intro e w3 hE
          rcases hE.split with ⟨q, b, hq, rfl, hE⟩ | ⟨hq, rfl, hk⟩
          · rcases hcase with ⟨rfl, _⟩ | ⟨h0, _⟩
            · exact .inl ⟨b, rfl, hE.pre hC.kept⟩
            · rw [h0] at hq; cases hq
          · rcases hcase with ⟨h0, hn⟩ | ⟨_, h0⟩
            · exact absurd (h0.symm.trans hq) hn
            · have hC3 := hC.step hk
              have hrn : none = r := by simpa using h0
              exact .inr ⟨rfl, cell_of hC3.blk rfl, cell_of hC3.blk rfl, cell_of (hC3.kept.blk HB.out) rfl, hC3.kept, by rw [← hrn]⟩
        clear hC hfo hdr hr1 hcase hje HJ HH HB HX HP HY HFf HL HD
        go_wp2_with fail
        have c0' : wr.drew.cell? ⟨w.heap.size, 0, none⟩ = some (.pointer q2) := c0
        have c1' : wr.drew.cell? ⟨w.heap.size, 1, none⟩ = some (.map (some gm)) := c1
        have c3' : wr.drew.cell? ⟨eb, 3, none⟩ = some (.iface Ty uy) := c3
        go_region_held2 (fun w' => w'.cell? ⟨w.heap.size, 0, none⟩ = some (.pointer q2) ∧ w'.cell? ⟨w.heap.size, 1, none⟩ = some (.map (some gm)) ∧ w'.cell? ⟨eb, 3, none⟩ = some (.iface Ty uy)) (go_keep) (first | (go_at_call 72; refine Calls.mono HC.out ?_; rintro e w3 (⟨a, rfl, hE⟩ | ⟨rfl, d0, d1, d2, HR⟩); exact ⟨rfl, hE⟩; clear HC))
        all_goals
          go_wp2
          exact bodyPost_end (results_none Tryz.results105 _ _ _) rfl HR.out
set_option maxRecDepth 20000 in
set_option maxHeartbeats 4000000 in
theorem scg_sx (gv : Gv) (f : X → List Bd → Option (Option (Nat × ByteArray))) (hf : SCk gv f) : SCg gv f := by
  intro names kids loc own r h w ad eb p gm hx hT
  obtain ⟨vs, y, rfl⟩ : ∃ vs y, kids = vs ++ [y] := by
    cases hx with
    | rc names' vs y loc' b nv vv q ps _ _ _ _ _ _ _ _ _ _ _ _ => exact ⟨vs, y, rfl⟩
  obtain ⟨b, nv, vv, q, ps, hN, hv, hb, hn, hvr, hl, hl2, hps, hy⟩ := rc_inv hx rfl
  simp only [Value.iface.injEq, Value.pointer.injEq, Option.some.injEq, Addr.mk.injEq, true_and, and_true] at hv
  subst hv
  have hn' : w.ownsRow 0 9 1 nv (names.map Value.string).length (names.map Value.string) := by rw [List.length_map]; exact hn
  obtain ⟨ng, ncap, ncur, rfl, hn1, hn2⟩ := row_blk hn' (by simpa using hN)
  have hvs : ps ≠ [] := fun z => hN (List.length_eq_zero_iff.1 (by rw [hl2, ← hl, z]; rfl))
  obtain ⟨gx, cap, cur, rfl, hx1, hx2⟩ := row_blk hvr hvs
  rw [List.length_map] at hb
  obtain ⟨hF, hk0⟩ := fc_start w eb p gm hb
  have q0 := fun W => Tryz.xReNa (.pointer (some ⟨eb, 0, none⟩)) W
  have q1 := fun W => Tryz.xReFu (.pointer (some ⟨eb, 0, none⟩)) W
  have q2 := fun W => Tryz.xReIf (.pointer (some ⟨eb, 0, none⟩)) W
  have q3 := fun W => Tryz.xReLe (.pointer (some ⟨eb, 0, none⟩)) W
  have q4 := fun W => Tryz.xReRe (.pointer (some ⟨eb, 0, none⟩)) W
  have HC : Hid (Calls Tryz.prog 105 #[.pointer (some ⟨eb, 0, none⟩), .agg #[.pointer p, .map (some gm)]] (w.alloc (.cells #[.pointer p, .map (some gm)] 168)) fun e w2 => (∃ b, e = thrown (.iface 84 (.pointer (some ⟨b, 0, none⟩))) ∧ ChO w r (thrown (.iface 84 (.pointer (some ⟨b, 0, none⟩)))) w2) ∨ (e = .returned (.tuple #[]) ∧ w2.cell? ⟨w.heap.size, 0, none⟩ = some (.pointer p) ∧ w2.cell? ⟨w.heap.size, 1, none⟩ = some (.map (some gm)) ∧ Hid (ChO w r (.returned (.tuple #[])) w2))) := by
    have hkd := hk0
    refine (chkg_sx hf h (hkd.blk hb) hl hl2 (hkd.blk hx1) hx2 (hkd.blk hn1) (fun j hj => by have := hn2 j (by simpa using hj); simpa using this) (fun j a c => (hps j _ _ (List.getElem?_eq_getElem a) (List.getElem?_eq_getElem c)).keepT (XKeep.kept hkd)) (hy.keepT (XKeep.kept hkd)) (hT.kept hkd)).mono ?_
    intro e w2 hE
    rcases hE.split with ⟨q, b, rfl, rfl, hE⟩ | ⟨rfl, rfl, hk⟩
    · exact .inl ⟨b, rfl, hE.pre hkd⟩
    · have hF2 := hF.kept hk
      exact .inr ⟨rfl, hF2.c.1, hF2.c.2, hkd.trans hk, rfl⟩
  obtain ⟨c0, c1⟩ := hF.c
  clear h hx hT hf hb hn hvr hl hl2 hps hy hn' hn1 hn2 hvs hx1 hx2 hF hk0 hN
  go_enter Tryz.func72, Tryz.ntmps72
  go_wp2_with fail
  clear q0 q1 q2 q3 q4
  generalize w.alloc (.cells #[.pointer p, .map (some gm)] 168) = W at *
  refine Calls.mono HC.out ?_
  rintro e w2 (⟨a, rfl, hE⟩ | ⟨rfl, d0, d1, HR⟩)
  · go_wp2
    exact ⟨rfl, hE⟩
  · clear HC
    go_wp2
    exact bodyPost_end (results_none Tryz.results72 _ _ _) rfl HR.out
end Go.Proofs.YtleenphlgbklmabGreatDoor
