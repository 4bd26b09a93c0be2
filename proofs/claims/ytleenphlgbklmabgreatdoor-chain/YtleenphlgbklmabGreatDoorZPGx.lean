import Derived.Test.YtleenphlgbklmabGreatDoorZPGw
set_option linter.unusedVariables false
set_option linter.unusedSimpArgs false
namespace Go.Proofs.YtleenphlgbklmabGreatDoor
open Go.RowKit

section
variable {ω : Type} {A : Nat → Addr} {B : Nat} {K : World → ω → Prop} {gv : Gv} {fuel : Nat} {wv : Value}
set_option maxRecDepth 20000 in
set_option maxHeartbeats 4000000 in
theorem round_sx (hK : KOk K) (hR : KRw K) {f : X → List Bd → St → ω → Option (Oc (TR × St) × ω)} (hf : STf A B K gv fuel wv f) {vs : List X} {own own2 : List Bd} {σ : St} {o : ω} {res : Oc (List TR × St) × ω} (h : rnd1 (fun x => f x own2) vs own σ o = some res) {w : World} {ad : List Nat} {p p2 : Option Addr} {gm eb gx cap : Nat} {nv q : Value} {dpt : Int} {ps : List Value}
    (hb : w.heap[eb]? = some (.cells #[.int .i64 dpt, nv, .slice (some ⟨gx, 0, none⟩) ps.length cap, q] 291 (0, 0))) (hl : ps.length = vs.length) (hm : ps.length ≤ 1000000) {cur : Array Value} (hx : w.heap[gx]? = some (.cells cur 107 (0, 0))) (hps : ∀ j (h : j < ps.length), cur[j]? = some ps[j]) (hpx : ∀ j (h : j < vs.length) (h2 : j < ps.length), PX w (fun _ => True) vs[j] ps[j]) (hT : TI A B K w ad σ own gv p gm o) (hT2 : CH w (RV ad) own2 (.pointer p2)) :
    Calls Tryz.prog 181 #[.agg #[.int .i64 fuel, wv], .pointer (some ⟨eb, 0, none⟩), .agg #[.pointer p2, .map (some gm)], .agg #[.pointer p, .map (some gm)]] w fun e w' => RnO A B K ad w e w' res.2 res.1 := by
  have k1 : Kept w (w.alloc (.cells #[.int .i64 fuel, wv] 103)) := Kept.alloc _ _
  have k2 := Kept.alloc (w.alloc (.cells #[.int .i64 fuel, wv] 103)) (.cells #[.pointer p2, .map (some gm)] 168)
  have k3 := Kept.alloc ((w.alloc (.cells #[.int .i64 fuel, wv] 103)).alloc (.cells #[.pointer p2, .map (some gm)] 168)) (.cells #[.pointer p, .map (some gm)] 168)
  have hk0 := (k1.trans k2).trans k3
  have b1 := k3.blk (k2.blk (heap_alloc_new w (.cells #[.int .i64 fuel, wv] 103)))
  have b2 := k3.blk (heap_alloc_new (w.alloc (.cells #[.int .i64 fuel, wv] 103)) (.cells #[.pointer p2, .map (some gm)] 168))
  have b3 := heap_alloc_new ((w.alloc (.cells #[.int .i64 fuel, wv] 103)).alloc (.cells #[.pointer p2, .map (some gm)] 168)) (.cells #[.pointer p, .map (some gm)] 168)
  have s1 : (w.alloc (.cells #[.int .i64 fuel, wv] 103)).heap.size = w.heap.size + 1 := by simp
  have s2 : ((w.alloc (.cells #[.int .i64 fuel, wv] 103)).alloc (.cells #[.pointer p2, .map (some gm)] 168)).heap.size = w.heap.size + 1 + 1 := by simp
  rw [s1] at b2
  rw [s2] at b3
  clear s1 s2
  generalize hW : ((w.alloc (.cells #[.int .i64 fuel, wv] 103)).alloc (.cells #[.pointer p2, .map (some gm)] 168)).alloc (.cells #[.pointer p, .map (some gm)] 168) = W at *
  have c2 : W.cell? ⟨eb, 2, none⟩ = some (.slice (some ⟨gx, 0, none⟩) ps.length cap) := by simp [World.cell?, hk0.blk hb]
  have hmk := run_make_row' (P := Tryz.prog) 273 77 .nilIface 16 Tryz.underlying273 Tryz.infoTypI rfl .i64 .i64 ps.length (by omega) (by omega) W
  have k4 := Kept.alloc W (.cells (madeCells #[.nilIface] ps.length) 77)
  have c2' := k4.cell c2
  have hB := hT.ga.sz
  have HI : Hid (RI (A := A) (B := B) (K := K) (gv := gv) (wv := wv) w ad fuel own own2 p p2 gm ps.length [] σ o (W.alloc (.cells (madeCells #[.nilIface] ps.length) 77)) ad []) := by
    have hk := hk0.trans k4
    have hsz : W.heap.size = w.heap.size + 1 + 1 + 1 := by rw [← hW]; simp
    refine ⟨k4.blk b1, k4.blk b2, k4.blk b3, ?_, ⟨rfl, fun j h1 h2 => by simp at h1⟩, hT.kept hK hk, hT2.keep (fun q cs f h => hk.blk h), Gk.ofKt (Kt.of_kept hk)⟩
    rw [made_rep, ← hsz]
    exact heap_alloc_new _ _
  have HV : Hid (vrest (fun x => f x own2) [] (vs.drop 0) σ o = valsF (fun x => f x own2) vs σ o) := vrest_zero _ _ _ _
  have HL : Hid _ := hl
  have HX : Hid _ := hpx
  have HP : Hid (w.heap[gx]? = some (.cells cur 107 (0, 0)) ∧ ∀ j (h : j < ps.length), cur[j]? = some ps[j]) := ⟨hx, hps⟩
  have HH : Hid _ := h
  have HF : Hid _ := hf
  clear k1 k2 k3 k4 hl hps hpx hT hT2 h hf b1 b2 b3 hk0 hb hx
  subst hW
  go_enter Tryz.func181, Tryz.ntmps181
  go_wp2_with fail
  generalize (((w.alloc (.cells #[.int .i64 fuel, wv] 103)).alloc (.cells #[.pointer p2, .map (some gm)] 168)).alloc (.cells #[.pointer p, .map (some gm)] 168)).alloc (.cells (madeCells #[.nilIface] ps.length) 77) = W0 at *
  clear hmk c2 c2'
  go_loopw [26] (fun i wr => ∃ (j : Nat) (ts : List TR) (σ1 : St) (o1 : ω) (ad2 : List Nat) (vals : List Value), j ≤ ps.length ∧ i = .int .i64 j ∧ Hid (vals.length = j) ∧ Hid (RI (A := A) (B := B) (K := K) (gv := gv) (wv := wv) w ad fuel own own2 p p2 gm ps.length ts σ1 o1 wr ad2 vals) ∧ Hid (vrest (fun x => f x own2) ts (vs.drop j) σ1 o1 = valsF (fun x => f x own2) vs σ o)) (fun i _ => ps.length - (intOf i).toNat)
  case atStart => exact ⟨0, [], σ, o, ad, [], Nat.zero_le _, rfl, rfl, HI, HV⟩
  case round =>
    obtain ⟨j, ts, σ1, o1, ad2, vals, hj, rfl, HJ, HI1, HV1⟩ := hrel
    by_cases hlt : j < ps.length
    · have hlv : j < vs.length := by rw [← HL.out]; exact hlt
      have HD : Hid (vs.drop j = vs[j] :: vs.drop (j + 1)) := List.drop_eq_getElem_cons hlv
      have hF := HI1.out
      have cx : wr.cell? ⟨gx, j, none⟩ = some ps[j] := by
        have := hF.gk.oth (by decide) HP.out.1
        simp [World.cell?, this, HP.out.2 j hlt]
      have d0 : wr.cell? ⟨w.heap.size, 0, none⟩ = some (.int .i64 fuel) := by simp [World.cell?, hF.by0]
      have d1 : wr.cell? ⟨w.heap.size, 1, none⟩ = some wv := by simp [World.cell?, hF.by0]
      have d2 : wr.cell? ⟨w.heap.size + 1, 0, none⟩ = some (.pointer p2) := by simp [World.cell?, hF.sc]
      have d3 : wr.cell? ⟨w.heap.size + 1, 1, none⟩ = some (.map (some gm)) := by simp [World.cell?, hF.sc]
      have hpx := HX.out j hlv hlt
      have hT2 : TI A B K wr ad2 σ1 own2 gv p2 gm o1 := ⟨hF.ti.sx, hF.ti.ws, hF.ti.ga, hF.ch, hF.ti.gm, hF.ti.k⟩
      obtain ⟨T, u, eT⟩ := hpx.iface
      rw [eT] at cx hpx
      -- what the mirror says of this value
      have hsome : ∃ r, f vs[j] own2 σ1 o1 = some r := by
        have h1 := HV1.out
        have h2 := HH.out
        simp only [rnd1, Option.bind_eq_some_iff] at h2
        obtain ⟨r, h2, _⟩ := h2
        rw [h2, HD.out] at h1
        simp only [vrest, valsF, Option.bind_eq_some_iff] at h1
        obtain ⟨_, ⟨r', h3, _⟩, _⟩ := h1
        exact ⟨r', h3⟩
      obtain ⟨⟨r1, o2⟩, hr1⟩ := hsome
      have HC : Hid (Calls Tryz.prog 73 #[.agg #[.int .i64 fuel, wv], .iface T u, .agg #[.pointer p2, .map (some gm)]] wr fun e w2 => (∃ a, e = thrown (.iface 342 (.pointer (some a))) ∧ RnO A B K ad w (thrown (.iface 342 (.pointer (some a)))) w2 res.2 res.1) ∨ (∃ T2 u2, e = .returned (.iface T2 u2) ∧ w2.cell? ⟨w.heap.size + 1 + 1 + 1, j, none⟩ = some .nilIface ∧ w2.frozen? ⟨w.heap.size + 1 + 1 + 1, j, none⟩ = false ∧ Hid (∃ (q : TR × St) (ad3 : List Nat), Hid (RI (A := A) (B := B) (K := K) (gv := gv) (wv := wv) w ad fuel own own2 p p2 gm ps.length (ts ++ [q.1]) q.2 o2 (w2.setCell ⟨w.heap.size + 1 + 1 + 1, j, none⟩ (.iface T2 u2)) ad3 (vals ++ [.iface T2 u2])) ∧ Hid (vrest (fun x => f x own2) (ts ++ [q.1]) (vs.drop (j + 1)) q.2 o2 = valsF (fun x => f x own2) vs σ o)))) := by
        have hJ : vals.length = j := HJ.out
        refine (STf.call HF.out hr1 (hpx.gk hF.gk) hT2).mono ?_
        rintro e w2 (⟨i, rfl, rfl, hk, hw⟩ | ⟨q, T2, u2, ad3, rfl, rfl, hv, hT3, hg⟩)
        · have h1 := HV1.out
          rw [HD.out, vrest_er (fun x => f x own2) ts vs[j] _ σ1 o1 hr1] at h1
          have h2 := HH.out
          simp only [rnd1, ← h1, Option.bind_some, Option.some.injEq] at h2
          subst h2
          exact .inl ⟨_, rfl, rfl, hk, (hF.gk.trans (Gk.ofKw hw)).kw⟩
        · have hrow := hg.oth (by decide) hF.row
          rw [rep_cons (by rw [hJ]; exact hlt)] at hrow
          refine .inr ⟨T2, u2, rfl, row_get hrow j hJ.symm, by simp [World.frozen?, hrow], q, ad3, ?_, ?_⟩
          · have := hF.step hR (by rw [hJ]; exact hlt) hv hT3 hg hB
            rwa [hJ] at this
          · have h1 := HV1.out
            rw [HD.out, vrest_ok (fun x => f x own2) ts vs[j] _ σ1 o1 hr1] at h1
            exact h1
      clear hF hpx hT2 hr1 eT HI HV HX HP HF HH HI1 HV1 HL HD
      go_wp2_with fail
      refine Calls.mono HC.out ?_
      rintro e w2 (⟨a, rfl, hE⟩ | ⟨T2, u2, rfl, m0, m1, HN⟩)
      · go_wp2
        exact ⟨rfl, hE⟩
      · clear HC
        obtain ⟨q, ad3, HI2, HV2⟩ := HN.out
        have HJ2 : Hid ((vals ++ [Value.iface T2 u2]).length = j + 1) := by
          show _ = _
          rw [List.length_append, HJ.out]
          rfl
        clear HN
        go_wp2
        go_roundw
        case measure => simp [intOf]; omega
        case rel => exact ⟨j + 1, ts ++ [q.1], q.2, o2, ad3, vals ++ [.iface T2 u2], hlt, by go_num, HJ2, HI2, HV2⟩
    · obtain rfl : j = ps.length := by omega
      have hF := HI1.out
      have hJ : vals.length = ps.length := HJ.out
      obtain ⟨bd, σ2, hbd, hgs, rfl⟩ : ∃ bd σ2, boundF σ1 own [] = some bd ∧ gensF σ1 bd ts = some σ2 ∧ res = (.ok (ts, σ2), o1) := by
        have h1 := HV1.out
        have h2 := HH.out
        rw [List.drop_of_length_le (by rw [HL.out]; omega), vrest_nil] at h1
        simp only [rnd1, ← h1, Option.bind_some, Option.bind_eq_some_iff, Option.some.injEq] at h2
        obtain ⟨bd, h3, σ2, h4, rfl⟩ := h2
        exact ⟨bd, σ2, h3, h4, rfl⟩
      have d2 : wr.cell? ⟨w.heap.size + 1 + 1, 0, none⟩ = some (.pointer p) := by simp [World.cell?, hF.so]
      have d3 : wr.cell? ⟨w.heap.size + 1 + 1, 1, none⟩ = some (.map (some gm)) := by simp [World.cell?, hF.so]
      have HC : Hid _ := bound_sx (gm := gm) hbd hF.ti.sx hF.ti.ch
      have hrow : TRow wr (w.heap.size + 1 + 1 + 1) vals := by
        have := hF.row
        rw [hJ, Nat.sub_self, List.replicate_zero, List.append_nil] at this
        exact this
      have HR : Hid _ := hrow
      have HG : Hid (gensF σ1 bd (ts.drop 0) = some σ2) := hgs
      have hlt2 : ts.length = ps.length := by rw [← hF.rv.1, hJ]
      have HLT : Hid _ := hlt2
      clear hF hJ hbd hgs hrow HI HV HX HP HF HH HV1 HL hlt2
      go_wp2_with fail
      refine Calls.mono HC.out ?_
      rintro e w3 ⟨mb, rfl, htm, hs3, hmb, hk3⟩
      have HS : Hid (SX w3 ad2 σ1 ∧ TMp w3 mb ad2 (pvP bd) ∧ WS σ1) := ⟨hs3, htm, HI1.out.ti.ws⟩
      have HK3 : Hid _ := hk3
      clear HC hs3 htm hk3
      go_wp2_with fail
      obtain ⟨wq, hwq⟩ : ∃ wq, wq = wr := ⟨wr, rfl⟩
      subst hwq
      go_loopw [43] (fun i wr2 => ∃ (j : Nat) (σj : St), j ≤ ps.length ∧ i = .int .i64 j ∧ Hid (SX wr2 ad2 σj ∧ TMp wr2 mb ad2 (pvP bd) ∧ WS σj) ∧ Hid (Kt ad2 (fun _ => False) wq wr2) ∧ Hid (gensF σj bd (ts.drop j) = some σ2)) (fun i _ => ps.length - (intOf i).toNat)
      case atStart => exact ⟨0, σ1, Nat.zero_le _, rfl, HS, HK3, HG⟩
      case round =>
        obtain ⟨j, σj, hj2, rfl, HSj, HKj, HGj⟩ := hrel
        by_cases hlt2 : j < ps.length
        · have hlv : j < vals.length := by rw [HJ.out]; exact hlt2
          have hlt3 : j < ts.length := by rw [HLT.out]; exact hlt2
          have c0 := (TRow.kt HR.out HKj.out).cell j hlv
          have hv := HI1.out.rv.2 j hlt3 hlv
          obtain ⟨σk, hg1, hg2⟩ : ∃ σk, genF 500 σj ts[j] bd = some σk ∧ gensF σk bd (ts.drop (j + 1)) = some σ2 := by
            have := HGj.out
            rw [List.drop_eq_getElem_cons hlt3] at this
            simpa only [gensF, Option.bind_eq_some_iff] using this
          have HC : Hid (Calls Tryz.prog 102 #[vals[j], .map (some mb)] wr fun e w' => e = .returned (.tuple #[]) ∧ Hid (SX w' ad2 σk ∧ TMp w' mb ad2 (pvP bd) ∧ WS σk) ∧ Hid (Kt ad2 (fun _ => False) wq w')) := by
            refine (gen_sx 500 σj σk ts[j] bd hg1 wr ad2 vals[j] mb HSj.out.1 hv HSj.out.2.1).mono ?_
            rintro e w' ⟨rfl, h1, h2, h3⟩
            exact ⟨rfl, ⟨h1, h2, HSj.out.2.2.gen 500 hg1⟩, HKj.out.trans h3⟩
          have HG2 : Hid _ := hg2
          obtain ⟨T, u, eT⟩ := hv.iface
          rw [eT] at c0 HC
          clear hv hg1 hg2 eT HSj HKj HGj HS HK3 HG HR
          go_wp2_with fail
          refine Calls.mono HC.out ?_
          rintro e w' ⟨rfl, HS', HK'⟩
          clear HC
          go_wp2
          go_roundw
          case measure => simp [intOf]; omega
          case rel => exact ⟨j + 1, σk, hlt2, by go_num, HS', HK', HG2⟩
        · obtain rfl : σj = σ2 := by
            have := HGj.out
            rw [List.drop_of_length_le (by rw [HLT.out]; omega)] at this
            simpa [gensF] using this
          have HE : Hid (RnO A B K ad w (.returned (.slice (some ⟨w.heap.size + 1 + 1 + 1, 0, none⟩) ps.length ps.length)) wr o1 (.ok (ts, σj))) := by
            have hF := HI1.out
            refine ⟨w.heap.size + 1 + 1 + 1, vals, ad2, by rw [HLT.out], by omega, TRow.kt HR.out HKj.out, hF.rv, HSj.out.1, HSj.out.2.2, hK _ _ _ _ hF.ti.k HKj.out, hF.gk.trans (Gk.ofKt HKj.out)⟩
          clear HSj HKj HGj HS HK3 HG HR HI1
          go_wp2
          exact bodyPost_ret (results_tmp Tryz.results181 _ _ _) rfl HE.out
end
end Go.Proofs.YtleenphlgbklmabGreatDoor
