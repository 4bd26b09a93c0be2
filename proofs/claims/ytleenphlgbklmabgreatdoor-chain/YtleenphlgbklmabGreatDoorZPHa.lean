import Derived.Test.YtleenphlgbklmabGreatDoorZTxL
set_option linter.unusedVariables false
set_option linter.unusedSimpArgs false
namespace Go.Proofs.YtleenphlgbklmabGreatDoor
open Go.RowKit

section
variable {ω : Type} {tl : List ByteArray → Nat → List TR → St → ω → Option (Oc Unit × ω)} {A : Nat → Addr} {B : Nat} {K : World → ω → Prop} {gv : Gv} {fuel : Nat} {wv : Value}
theorem rndF_len {f : X → List Bd → St → ω → Option (Oc (TR × St) × ω)} {names : List ByteArray} {vs : List X} {own : List Bd} : ∀ {k rd : Nat} {ts : List TR} {σ : St} {o o' : ω} {q : List TR × St}, rndF tl f names vs own fuel k rd ts σ o = some (.ok q, o') → q.1.length = vs.length
  | 0, _, _, _, _, _, _, h => by simp [rndF] at h
  | k + 1, rd, ts, σ, o, o', q, h => by
    obtain ⟨rr, o2, h1, h2⟩ := rndF_succ h
    rcases h2 with ⟨j, _, e⟩ | ⟨ts2, σ2, rt, o3, rfl, _, h3⟩
    · simp at e
    · rcases h3 with ⟨j, _, e⟩ | ⟨b, _, _, h4⟩
      · simp at e
      · rcases h4 with ⟨_, e⟩ | ⟨_, _, e⟩ | ⟨_, _, e⟩
        · simp only [Prod.mk.injEq, Oc.ok.injEq] at e
          rw [e.1]
          exact rnd1_len h1
        · simp at e
        · exact rndF_len e
set_option maxRecDepth 20000 in
set_option maxHeartbeats 4000000 in
theorem grp_sx (hK : KOk K) (hR : KRw K) {f : X → List Bd → St → ω → Option (Oc (TR × St) × ω)} (hf : STf A B K gv fuel wv f) (ht : STl tl A B K fuel wv) (hfu : fuel ≤ 9000000000000000000) {names : List ByteArray} {vs : List X} {y : X} {own : List Bd} {σ : St} {o : ω} {res : Oc (TR × St) × ω} (h : recF tl f fuel names vs y own σ o = some res) {w : World} {ad : List Nat} {p : Option Addr} {gm eb ng ncap gx cap : Nat} {q : Value} {dpt : Int} {ps : List Value}
    (hb : w.heap[eb]? = some (.cells #[.int .i64 dpt, .slice (some ⟨ng, 0, none⟩) names.length ncap, .slice (some ⟨gx, 0, none⟩) ps.length cap, q] 291 (0, 0))) (hl : ps.length = vs.length) (hln : names.length = vs.length) {cur ncur : Array Value} (hx : w.heap[gx]? = some (.cells cur 107 (0, 0))) (hps : ∀ j (h : j < ps.length), cur[j]? = some ps[j]) (hn : w.heap[ng]? = some (.cells ncur 9 (0, 0))) (hns : ∀ j (h : j < names.length), ncur[j]? = some (.string names[j])) (hpx : ∀ j (h : j < vs.length) (h2 : j < ps.length), PX w (fun _ => True) vs[j] ps[j]) (hy : PX w (fun _ => True) y q) (hT : TI A B K w ad σ own gv p gm o) :
    Calls Tryz.prog 147 #[.agg #[.int .i64 fuel, wv], .pointer (some ⟨eb, 0, none⟩), .agg #[.pointer p, .map (some gm)]] w fun e w' => TyO A B K ad w e w' res.2 res.1 := by
  have hm : ps.length ≤ 1000000 := by
    by_cases hc : names.length ≤ 1000000
    · omega
    · simp [recF, hc] at h
  have hmn : names.length ≤ 1000000 := by omega
  simp only [recF, hmn, if_true, Option.bind_eq_some_iff] at h
  obtain ⟨⟨r1, o1⟩, h1, h⟩ := h
  obtain ⟨hF, hk0⟩ := fx_start w eb fuel wv p gm hb
  obtain ⟨Ty, uy, rfl⟩ := hy.iface
  have HC : Hid (Calls Tryz.prog 166 #[.agg #[.int .i64 fuel, wv], .pointer (some ⟨eb, 0, none⟩), .agg #[.pointer p, .map (some gm)]] ((w.alloc (.cells #[.int .i64 fuel, wv] 103)).alloc (.cells #[.pointer p, .map (some gm)] 168)) fun e w1 => (∃ a, e = thrown (.iface 342 (.pointer (some a))) ∧ TyO A B K ad w (thrown (.iface 342 (.pointer (some a)))) w1 res.2 res.1) ∨ (∃ g, e = .returned (.slice (some ⟨g, 0, none⟩) names.length names.length) ∧ Hid (∃ ts σ1 ad1 vals, r1 = .ok (ts, σ1) ∧ ts.length = names.length ∧ LI A B K gv fuel wv w ad own p gm eb #[.int .i64 dpt, .slice (some ⟨ng, 0, none⟩) names.length ncap, .slice (some ⟨gx, 0, none⟩) ps.length cap, .iface Ty uy] ts σ1 o1 w1 ad1 g vals))) := by
    have hg0 : Gk B ad ad w ((w.alloc (.cells #[.int .i64 fuel, wv] 103)).alloc (.cells #[.pointer p, .map (some gm)] 168)) := Gk.ofKt (Kt.of_kept hk0)
    refine (last_sx hK hR hf ht h1 hfu (hk0.blk hb) hl hln hm (hk0.blk hx) hps (hk0.blk hn) hns (fun j a b => (hpx j a b).gk hg0) (hT.kept hK hk0)).mono ?_
    intro e w1 hE
    cases r1 with
    | er j =>
      simp only [Option.some.injEq] at h
      subst h
      exact .inl ⟨_, hE.1, rfl, hE.2.1, (hg0.trans (Gk.ofKw hE.2.2)).kw⟩
    | ok q3 =>
      obtain ⟨g, vals, ad1, rfl, hlo, hrow, hrv, hs1, hw1, hk1, hg1⟩ := hE
      have hlen : q3.1.length = names.length := (rndF_len h1).trans hln.symm
      rw [hlen]
      exact .inr ⟨g, rfl, q3.1, q3.2, ad1, vals, rfl, hlen, hrow, hrv, (hT.kept hK hk0).to hg1 hs1 hw1 hk1, hF.gk hg1 (by decide), hg0.trans hg1, Nat.le_trans hk0.size hlo⟩
  have HH : Hid _ := h
  have HN : Hid _ := And.intro hn hns
  have HY : Hid _ := hy
  have HFf : Hid _ := hf
  have HKK : Hid (KOk K) := hK
  have HLn : Hid (names.length ≤ 1000000) := by show _ ≤ _; omega
  clear h1 h hF hk0 hf ht hT hy hpx hns hn hps hx hl hln hb hK hR
  go_enter Tryz.func147, Tryz.ntmps147
  go_wp2_with fail
  generalize (w.alloc (.cells #[.int .i64 fuel, wv] 103)).alloc (.cells #[.pointer p, .map (some gm)] 168) = W at *
  refine Calls.mono HC.out ?_
  rintro e w1 (⟨a, rfl, hE⟩ | ⟨g, rfl, HE⟩)
  · go_wp2
    exact ⟨rfl, hE⟩
  · clear HC
    obtain ⟨ts, σ1, ad1, vals, rfl, hlen, hL⟩ := HE.out
    have hh : f y (grpF names ts own) σ1 o1 = some res := HH.out
    have hkd := Kept.drew w1
    have hFd := hL.fx.kept hkd
    have hgd : Gk B ad ad1 w w1.drew := hL.gk.trans (Gk.ofKt (Kt.of_kept hkd))
    have hTd := hL.ti.kept HKK.out hkd
    have HC : Hid (Calls Tryz.prog 141 #[.agg #[.pointer p, .map (some gm)], .slice (some ⟨ng, 0, none⟩) names.length ncap, .slice (some ⟨g, 0, none⟩) names.length names.length] w1.drew fun e w2 => ∃ q2, e = .returned (.agg #[.pointer q2, .map (some gm)]) ∧ w2.cell? ⟨w.heap.size, 0, none⟩ = some (.int .i64 fuel) ∧ w2.cell? ⟨w.heap.size, 1, none⟩ = some wv ∧ w2.cell? ⟨w.heap.size + 1, 0, none⟩ = some (.pointer p) ∧ w2.cell? ⟨w.heap.size + 1, 1, none⟩ = some (.map (some gm)) ∧ w2.cell? ⟨eb, 1, none⟩ = some (.slice (some ⟨ng, 0, none⟩) names.length ncap) ∧ w2.cell? ⟨eb, 3, none⟩ = some (.iface Ty uy) ∧
        Hid (Calls Tryz.prog 73 #[.agg #[.int .i64 fuel, wv], .iface Ty uy, .agg #[.pointer q2, .map (some gm)]] w2 fun e w3 => (∃ a, e = thrown (.iface 342 (.pointer (some a))) ∧ TyO A B K ad w (thrown (.iface 342 (.pointer (some a)))) w3 res.2 res.1) ∨ (∃ T3 u3, e = .returned (.iface T3 u3) ∧ w3.cell? ⟨w.heap.size, 0, none⟩ = some (.int .i64 fuel) ∧ w3.cell? ⟨w.heap.size, 1, none⟩ = some wv ∧ w3.cell? ⟨w.heap.size + 1, 0, none⟩ = some (.pointer p) ∧ w3.cell? ⟨w.heap.size + 1, 1, none⟩ = some (.map (some gm)) ∧ w3.cell? ⟨eb, 1, none⟩ = some (.slice (some ⟨ng, 0, none⟩) names.length ncap) ∧ w3.cell? ⟨eb, 3, none⟩ = some (.iface Ty uy) ∧ Hid (TyO A B K ad w (.returned (.iface T3 u3)) w3 res.2 res.1)))) := by
      have hn1 := hgd.oth (by decide) HN.out.1
      refine (withg_any (R := RV ad1) (ts := ts) (vals := vals) (own := own) hlen.symm hL.rv.1 HLn.out (fun j h => by simp [World.cell?, hn1, HN.out.2 j h]) (fun j h => (TRow.kt hL.row (Kt.of_kept (ad := []) hkd)).cell j h) (fun v hv => ?_) hL.rv.2 hTd.ch).mono ?_
      · obtain ⟨j, hj, rfl⟩ := List.mem_iff_getElem.1 hv
        exact .inr (hL.rv.2 j (by rw [← hL.rv.1]; exact hj) hj).iface
      · rintro e w2 ⟨q2, rfl, hc2, hk2⟩
        have hF2 := hFd.kept hk2
        have hg2 := hgd.trans (Gk.ofKt (Kt.of_kept hk2))
        have hT2 := hTd.kept HKK.out hk2
        obtain ⟨d0, d1, d2, d3⟩ := hF2.c
        refine ⟨q2, rfl, d0, d1, d2, d3, hF2.x (i := 1) rfl, hF2.x (i := 3) rfl, ?_⟩
        refine (STf.call (r1 := res.1) (o1 := res.2) HFf.out hh (HY.out.gk hg2) ⟨hT2.sx, hT2.ws, hT2.ga, hc2, hT2.gm, hT2.k⟩).mono ?_
        rintro e w3 (⟨j, ej, rfl, hk, hw⟩ | ⟨q3, T3, u3, ad3, ej, rfl, hv, hT3, hg⟩)
        · rw [ej]
          exact .inl ⟨_, rfl, rfl, hk, (hg2.trans (Gk.ofKw hw)).kw⟩
        · have hF3 := hF2.gk hg (by decide)
          obtain ⟨f0, f1, f2, f3⟩ := hF3.c
          rw [ej]
          exact .inr ⟨T3, u3, rfl, f0, f1, f2, f3, hF3.x (i := 1) rfl, hF3.x (i := 3) rfl, _, ad3, rfl, hv, hT3.sx, hT3.ws, hT3.k, hg2.trans hg⟩
    obtain ⟨c0, c1, c2, c3⟩ := hFd.c
    have c4 := hFd.x (i := 1) (v := .slice (some ⟨ng, 0, none⟩) names.length ncap) rfl
    have c5 := hFd.x (i := 3) (v := .iface Ty uy) rfl
    clear hh hkd hFd hgd hTd hL HE HH HN HY HFf hlen
    go_wp2_with fail
    go_region_held2 (fun w' => w'.cell? ⟨w.heap.size, 0, none⟩ = some (.int .i64 fuel) ∧ w'.cell? ⟨w.heap.size, 1, none⟩ = some wv ∧ w'.cell? ⟨w.heap.size + 1, 0, none⟩ = some (.pointer p) ∧ w'.cell? ⟨w.heap.size + 1, 1, none⟩ = some (.map (some gm)) ∧ w'.cell? ⟨eb, 1, none⟩ = some (.slice (some ⟨ng, 0, none⟩) names.length ncap) ∧ w'.cell? ⟨eb, 3, none⟩ = some (.iface Ty uy)) (go_keep) (first | (go_at_call 141; refine Calls.mono HC.out ?_; rintro e w2 ⟨q2, rfl, d0, d1, d2, d3, d4, d5, HD⟩; clear HC) | (go_at_call 73; refine Calls.mono HD.out ?_; rintro e w3 (⟨a, rfl, hE⟩ | ⟨T3, u3, rfl, f0, f1, f2, f3, f4, f5, HE⟩); exact ⟨rfl, hE⟩; clear HD))
    all_goals
      go_wp2
      exact bodyPost_ret (results_tmp Tryz.results147 _ _ _) rfl HE.out
end
end Go.Proofs.YtleenphlgbklmabGreatDoor

namespace Go.Proofs.YtleenphlgbklmabGreatDoor
open Go.RowKit

theorem take_get {cur : Array Value} {xs : List Value} {n : Nat} (h : cur.toList.take n = xs) (j : Nat) (hj : j < xs.length) : cur[j]? = some xs[j] := by
  subst h
  simp only [List.length_take] at hj
  rw [List.getElem_take, ← Array.getElem?_toList, List.getElem?_eq_getElem (by omega)]
theorem row_blk {w : World} {e : TypeId} {v : Value} {xs : List Value} (h : w.ownsRow 0 e 1 v xs.length xs) (hx : xs ≠ []) : ∃ g cap cur, v = .slice (some ⟨g, 0, none⟩) xs.length cap ∧ w.heap[g]? = some (.cells cur e (0, 0)) ∧ ∀ j (h : j < xs.length), cur[j]? = some xs[j] := by
  rcases h.2 with ⟨_, e0⟩ | ⟨g, cap, cur, h1, _, h3, _, _, _, h7⟩
  · exact absurd (List.length_eq_zero_iff.1 e0) hx
  · rw [Nat.mul_one] at h7
    exact ⟨g, cap, cur, h1, h3, fun j hj => take_get h7 j hj⟩
theorem rc_inv {w : World} {P : Nat → Prop} {t : X} {v : Value} (h : PX w P t v) {names : List ByteArray} {vs : List X} {y : X} {loc : Nat} (ht : t = .mk { data := #[114, 101, 99] } names (vs ++ [y]) loc) : ∃ (b : Nat) (nv vv q : Value) (ps : List Value), names ≠ [] ∧ v = .iface 250 (.pointer (some ⟨b, 0, none⟩)) ∧ w.heap[b]? = some (.cells #[.int .i64 (max (dps vs) (dp y) + 1 : Nat), nv, vv, q] 291 (0, 0)) ∧ w.ownsRow 0 9 1 nv names.length (names.map Value.string) ∧ w.ownsRow 0 107 1 vv ps.length ps ∧ ps.length = vs.length ∧ names.length = vs.length ∧ (∀ (j : Nat) (x : X) (p : Value), vs[j]? = some x → ps[j]? = some p → PX w P x p) ∧ PX w P y q := by
  cases h with
  | rc names' kids y' loc' b nv vv q ps hN _ _ hb hn hv _ _ hl hl2 hps hy =>
    simp only [X.mk.injEq, true_and] at ht
    obtain ⟨rfl, happ, rfl⟩ := ht
    have hyy : y' = y := by
      have := congrArg List.getLast? happ
      simpa using this
    subst hyy
    have hkk : kids = vs := by simpa using happ
    subst hkk
    exact ⟨b, nv, vv, q, ps, hN, rfl, hb, hn, hv, hl, hl2, hps, hy⟩
  | _ => simp at ht
section
variable {ω : Type} {tl : List ByteArray → Nat → List TR → St → ω → Option (Oc Unit × ω)} {A : Nat → Addr} {B : Nat} {K : World → ω → Prop} {gv : Gv} {fuel : Nat} {wv : Value}
theorem sgr_sx (hK : KOk K) (hR : KRw K) (hfu : fuel ≤ 9000000000000000000) (ht : STl tl A B K fuel wv) {f : X → List Bd → St → ω → Option (Oc (TR × St) × ω)} (hf : STf A B K gv fuel wv f) : SGr tl A B K gv fuel wv f := by
  intro names vs y loc own σ o res h w ad eb p gm hx hT
  obtain ⟨b, nv, vv, q, ps, hN, hv, hb, hn, hvr, hl, hl2, hps, hy⟩ := rc_inv hx rfl
  simp only [Value.iface.injEq, Value.pointer.injEq, Option.some.injEq, Addr.mk.injEq, true_and, and_true] at hv
  subst hv
  have hn' : w.ownsRow 0 9 1 nv (names.map Value.string).length (names.map Value.string) := by rw [List.length_map]; exact hn
  obtain ⟨ng, ncap, ncur, rfl, hn1, hn2⟩ := row_blk hn' (by simpa using hN)
  have hvs : ps ≠ [] := fun z => hN (List.length_eq_zero_iff.1 (by rw [hl2, ← hl, z]; rfl))
  obtain ⟨gx, cap, cur, rfl, hx1, hx2⟩ := row_blk hvr hvs
  rw [List.length_map] at hb
  exact grp_sx hK hR hf ht hfu h hb hl hl2 hx1 hx2 hn1 (fun j hj => by have := hn2 j (by simpa using hj); simpa using this) (fun j a c => hps j _ _ (List.getElem?_eq_getElem a) (List.getElem?_eq_getElem c)) hy hT
end
end Go.Proofs.YtleenphlgbklmabGreatDoor
