import Derived.Test.YtleenphlgbklmabGreatDoorZPGx
import Derived.Test.YtleenphlgbklmabGreatDoorZTEn
set_option linter.unusedVariables false
set_option linter.unusedSimpArgs false
namespace Go.Proofs.YtleenphlgbklmabGreatDoor
open Go.RowKit

section
variable {ω : Type} (tl : List ByteArray → Nat → List TR → St → ω → Option (Oc Unit × ω)) (A : Nat → Addr) (B : Nat) (K : World → ω → Prop) (fuel : Nat) (wv : Value)
/-- how telling ends. -/
def TlO (ad : List Nat) (σ : St) (w : World) (e : Ending) (w' : World) (o : ω) : Oc Unit → Prop
  | .ok _ => e = .returned (.tuple #[]) ∧ SX w' ad σ ∧ K w' o ∧ Kw B ad w w'
  | .er j => Thr A j e ∧ K w' o ∧ Kw B ad w w'
/-- the program's tell does what the mirror does. -/
def STl : Prop := ∀ (names : List ByteArray) (rd : Nat) (ts : List TR) (σ : St) (o : ω) (r : Oc Unit × ω), tl names rd ts σ o = some r → names.length = ts.length → rd ≤ fuel → ∀ (w : World) (ad : List Nat) (ng cap g : Nat) (cur : Array Value) (vals : List Value), w.heap[ng]? = some (.cells cur 9 (0, 0)) → (∀ j (h : j < names.length), cur[j]? = some (.string names[j])) → TRow w g vals → RVs ad ts vals → SX w ad σ → WS σ → GA A B ad w → K w o →
  Calls Tryz.prog 182 #[.agg #[.int .i64 fuel, wv], .slice (some ⟨ng, 0, none⟩) names.length cap, .int .i64 rd, .slice (some ⟨g, 0, none⟩) ts.length ts.length] w fun e w' => TlO A B K ad σ w e w' r.2 r.1
end
theorem valsF_len {ω : Type} {typ : X → St → ω → Option (Oc (TR × St) × ω)} : ∀ {xs : List X} {σ : St} {o o' : ω} {q : List TR × St}, valsF typ xs σ o = some (.ok q, o') → q.1.length = xs.length
  | [], σ, o, o', q, h => by
    simp only [valsF, Option.some.injEq, Prod.mk.injEq, Oc.ok.injEq] at h
    rw [← h.1]
    rfl
  | x :: xs, σ, o, o', q, h => by
    simp only [valsF, Option.bind_eq_some_iff] at h
    obtain ⟨⟨r, o1⟩, _, h⟩ := h
    cases r with
    | er j => simp at h
    | ok p =>
      simp only [Option.bind_eq_some_iff] at h
      obtain ⟨⟨r, o2⟩, h2, h⟩ := h
      cases r with
      | er j => simp at h
      | ok q2 =>
        simp only [Option.some.injEq, Prod.mk.injEq, Oc.ok.injEq] at h
        rw [← h.1]
        simp [valsF_len h2]
theorem rnd1_len {ω : Type} {typ : X → St → ω → Option (Oc (TR × St) × ω)} {xs : List X} {own : List Bd} {σ : St} {o o' : ω} {q : List TR × St} (h : rnd1 typ xs own σ o = some (.ok q, o')) : q.1.length = xs.length := by
  simp only [rnd1, Option.bind_eq_some_iff] at h
  obtain ⟨⟨r, o1⟩, h1, h⟩ := h
  cases r with
  | er j => simp at h
  | ok p =>
    simp only [Option.bind_eq_some_iff, Option.some.injEq, Prod.mk.injEq, Oc.ok.injEq] at h
    obtain ⟨_, _, _, _, rfl, _⟩ := h
    show p.1.length = _
    exact valsF_len h1
theorem rndF_succ {ω : Type} {tl : List ByteArray → Nat → List TR → St → ω → Option (Oc Unit × ω)} {f : X → List Bd → St → ω → Option (Oc (TR × St) × ω)} {names : List ByteArray} {vs : List X} {own : List Bd} {fuel k rd : Nat} {ts : List TR} {σ : St} {o : ω} {res : Oc (List TR × St) × ω} (h : rndF tl f names vs own fuel (k + 1) rd ts σ o = some res) :
    ∃ rr o2, rnd1 (fun x => f x (grpF names ts own)) vs own σ o = some (rr, o2) ∧ ((∃ j, rr = .er j ∧ res = (.er j, o2)) ∨ ∃ ts2 σ2 rt o3, rr = .ok (ts2, σ2) ∧ tl names rd ts2 σ2 o2 = some (rt, o3) ∧ ((∃ j, rt = .er j ∧ res = (.er j, o3)) ∨ ∃ b, rt = .ok () ∧ samesF σ2 ts ts2 = some b ∧ ((b = true ∧ res = (.ok (ts2, σ2), o3)) ∨ (b = false ∧ rd = fuel ∧ res = (.er 5, o3)) ∨ (b = false ∧ rd ≠ fuel ∧ rndF tl f names vs own fuel k (rd + 1) ts2 σ2 o3 = some res)))) := by
  simp only [rndF, Option.bind_eq_some_iff] at h
  obtain ⟨⟨r, o2⟩, h1, h⟩ := h
  cases r with
  | er j =>
    simp only [Option.some.injEq] at h
    subst h
    exact ⟨.er j, o2, by simp [rnd1, h1], .inl ⟨j, rfl, rfl⟩⟩
  | ok q =>
    simp only [Option.bind_eq_some_iff] at h
    obtain ⟨bd, hb, σ2, hg, ⟨rt, o3⟩, ht, h⟩ := h
    refine ⟨.ok (q.1, σ2), o2, by simp [rnd1, h1, hb, hg], .inr ⟨q.1, σ2, rt, o3, rfl, ht, ?_⟩⟩
    cases rt with
    | er j =>
      simp only [Option.some.injEq] at h
      subst h
      exact .inl ⟨j, rfl, rfl⟩
    | ok u =>
      simp only [Option.bind_eq_some_iff] at h
      obtain ⟨b, hs, h⟩ := h
      refine .inr ⟨b, rfl, hs, ?_⟩
      cases b with
      | true =>
        simp only [if_true, Option.some.injEq] at h
        exact .inl ⟨rfl, h.symm⟩
      | false =>
        simp only [Bool.false_eq_true, if_false] at h
        by_cases hr : rd = fuel
        · simp only [hr, beq_self_eq_true, if_true, Option.some.injEq] at h
          exact .inr (.inl ⟨rfl, hr, h.symm⟩)
        · have hb' : (rd == fuel) = false := by simpa using hr
          simp only [hb', Bool.false_eq_true, if_false] at h
          exact .inr (.inr ⟨rfl, hr, h⟩)
/-- what stands ahead of a round. -/
structure LI {ω : Type} (A : Nat → Addr) (B : Nat) (K : World → ω → Prop) (gv : Gv) (fl : Int) (wv : Value) (w : World) (ad : List Nat) (own : List Bd) (p : Option Addr) (gm eb : Nat) (cs : Array Value) (ts : List TR) (σ : St) (o : ω) (wr : World) (ad2 : List Nat) (g : Nat) (vals : List Value) : Prop where
  row : TRow wr g vals
  rv : RVs ad2 ts vals
  ti : TI A B K wr ad2 σ own gv p gm o
  fx : FX wr w.heap.size (w.heap.size + 1) eb fl wv p gm cs 291
  gk : Gk B ad ad2 w wr
  low : w.heap.size ≤ g
section
variable {ω : Type} {tl : List ByteArray → Nat → List TR → St → ω → Option (Oc Unit × ω)} {A : Nat → Addr} {B : Nat} {K : World → ω → Prop} {gv : Gv} {fuel : Nat} {wv : Value}
set_option maxRecDepth 20000 in
set_option maxHeartbeats 4000000 in
theorem last_sx (hK : KOk K) (hR : KRw K) {f : X → List Bd → St → ω → Option (Oc (TR × St) × ω)} (hf : STf A B K gv fuel wv f) (ht : STl tl A B K fuel wv) {names : List ByteArray} {vs : List X} {own : List Bd} {σ : St} {o : ω} {res : Oc (List TR × St) × ω} (h : rndF tl f names vs own fuel fuel 1 (anyF names.length σ).1 (anyF names.length σ).2 o = some res) (hfu : fuel ≤ 9000000000000000000) {w : World} {ad : List Nat} {p : Option Addr} {gm eb ng ncap gx cap : Nat} {q : Value} {dpt : Int} {ps : List Value}
    (hb : w.heap[eb]? = some (.cells #[.int .i64 dpt, .slice (some ⟨ng, 0, none⟩) names.length ncap, .slice (some ⟨gx, 0, none⟩) ps.length cap, q] 291 (0, 0))) (hl : ps.length = vs.length) (hln : names.length = vs.length) (hm : ps.length ≤ 1000000) {cur ncur : Array Value} (hx : w.heap[gx]? = some (.cells cur 107 (0, 0))) (hps : ∀ j (h : j < ps.length), cur[j]? = some ps[j]) (hn : w.heap[ng]? = some (.cells ncur 9 (0, 0))) (hns : ∀ j (h : j < names.length), ncur[j]? = some (.string names[j])) (hpx : ∀ j (h : j < vs.length) (h2 : j < ps.length), PX w (fun _ => True) vs[j] ps[j]) (hT : TI A B K w ad σ own gv p gm o) :
    Calls Tryz.prog 166 #[.agg #[.int .i64 fuel, wv], .pointer (some ⟨eb, 0, none⟩), .agg #[.pointer p, .map (some gm)]] w fun e w' => RnO A B K ad w e w' res.2 res.1 := by
  obtain ⟨hF, hk0⟩ := fx_start w eb fuel wv p gm hb
  have c1 := hF.x (i := 1) (v := .slice (some ⟨ng, 0, none⟩) names.length ncap) rfl
  have HA : Hid _ := any_sx (SX.kept hT.sx hk0) hT.ws names.length (by omega)
  have HL : Hid _ := And.intro hl hln
  have HH : Hid _ := h
  have HX : Hid _ := And.intro hx hps
  have HN : Hid _ := And.intro hn hns
  have HPX : Hid _ := hpx
  have HT : Hid _ := hT
  have HTl : Hid _ := ht
  have HFf : Hid _ := hf
  have HB : Hid _ := hb
  have HK0 : Hid _ := hk0
  have HF : Hid _ := hF
  have HKK : Hid (KOk K ∧ KRw K) := ⟨hK, hR⟩
  clear hl hln h hx hps hn hns hpx hT ht hf hb hk0 hF hK hR
  go_enter Tryz.func166, Tryz.ntmps166
  go_wp2_with fail
  generalize (w.alloc (.cells #[.int .i64 fuel, wv] 103)).alloc (.cells #[.pointer p, .map (some gm)] 168) = W at *
  refine Calls.mono HA.out ?_
  rintro e w1 ⟨g, vals, ad1, rfl, hrow, hrv, hs1, hw1, hg1, hgw⟩
  have hG1 : Gk B ad ad1 w w1 := (Gk.ofKt (Kt.of_kept HK0.out)).trans (Gk.of hgw)
  have HI : Hid (LI A B K gv fuel wv w ad own p gm eb #[.int .i64 dpt, .slice (some ⟨ng, 0, none⟩) names.length ncap, .slice (some ⟨gx, 0, none⟩) ps.length cap, q] (anyF names.length σ).1 (anyF names.length σ).2 o w1 ad1 g vals) := by
    have hT1 := HT.out.kept HKK.out.1 HK0.out
    exact ⟨hrow, hrv, hT1.to (Gk.of hgw) hs1 hw1 (HKK.out.1 _ _ _ _ hT1.k hgw.kt), FX.gk (B := B) HF.out (Gk.of hgw) (by decide), hG1, Nat.le_trans HK0.out.size hg1⟩
  have HLn : Hid ((anyF names.length σ).1.length = names.length) := by
    show _ = _
    rw [anyF_eq]
    simp
  clear hrow hrv hs1 hw1 hG1 hgw hg1 HA
  generalize (anyF names.length σ).1 = ts0 at *
  generalize (anyF names.length σ).2 = σ0 at *
  go_wp2_with fail
  go_loopw [7, 8] (fun s i wr => ∃ (k rd : Nat) (ts : List TR) (σ1 : St) (o1 : ω) (ad2 : List Nat) (g : Nat) (vals : List Value), rd + k = fuel + 1 ∧ s = .slice (some ⟨g, 0, none⟩) names.length names.length ∧ i = .int .i64 rd ∧ Hid (ts.length = names.length) ∧ Hid (rndF tl f names vs own fuel k rd ts σ1 o1 = some res) ∧ Hid (LI A B K gv fuel wv w ad own p gm eb #[.int .i64 dpt, .slice (some ⟨ng, 0, none⟩) names.length ncap, .slice (some ⟨gx, 0, none⟩) ps.length cap, q] ts σ1 o1 wr ad2 g vals)) (fun _ i _ => fuel + 1 - (intOf i).toNat)
  case atStart => exact ⟨fuel, 1, ts0, σ0, o, ad1, g, vals, by omega, rfl, rfl, HLn, HH, HI⟩
  case round =>
    obtain ⟨k, rd, ts, σ1, o1, ad2, g1, vals1, hrd, rfl, rfl, HLt, HR1, HI1⟩ := hrel
    cases k with
    | zero => exact absurd HR1.out (by simp [rndF])
    | succ k =>
    obtain ⟨rr, o2, hr1, hcase⟩ := rndF_succ HR1.out
    have HCa : Hid _ := hcase
    have hF := HI1.out
    have hkd := Kept.drew wr
    have hFd := hF.fx.kept hkd
    have hgd : Gk B ad ad2 w wr.drew := hF.gk.trans (Gk.ofKt (Kt.of_kept hkd))
    have hTd := hF.ti.kept HKK.out.1 hkd
    have HC : Hid (Calls Tryz.prog 141 #[.agg #[.pointer p, .map (some gm)], .slice (some ⟨ng, 0, none⟩) names.length ncap, .slice (some ⟨g1, 0, none⟩) names.length names.length] wr.drew fun e w2 => ∃ q2, e = .returned (.agg #[.pointer q2, .map (some gm)]) ∧ w2.cell? ⟨w.heap.size, 0, none⟩ = some (.int .i64 fuel) ∧ w2.cell? ⟨w.heap.size, 1, none⟩ = some wv ∧ w2.cell? ⟨w.heap.size + 1, 0, none⟩ = some (.pointer p) ∧ w2.cell? ⟨w.heap.size + 1, 1, none⟩ = some (.map (some gm)) ∧ w2.cell? ⟨eb, 1, none⟩ = some (.slice (some ⟨ng, 0, none⟩) names.length ncap) ∧
        Hid (Calls Tryz.prog 181 #[.agg #[.int .i64 fuel, wv], .pointer (some ⟨eb, 0, none⟩), .agg #[.pointer q2, .map (some gm)], .agg #[.pointer p, .map (some gm)]] w2 fun e w3 => (∃ a, e = thrown (.iface 342 (.pointer (some a))) ∧ RnO A B K ad w (thrown (.iface 342 (.pointer (some a)))) w3 res.2 res.1) ∨ (∃ g3, e = .returned (.slice (some ⟨g3, 0, none⟩) names.length names.length) ∧ w3.cell? ⟨w.heap.size, 0, none⟩ = some (.int .i64 fuel) ∧ w3.cell? ⟨w.heap.size, 1, none⟩ = some wv ∧ w3.cell? ⟨w.heap.size + 1, 0, none⟩ = some (.pointer p) ∧ w3.cell? ⟨w.heap.size + 1, 1, none⟩ = some (.map (some gm)) ∧ w3.cell? ⟨eb, 1, none⟩ = some (.slice (some ⟨ng, 0, none⟩) names.length ncap) ∧ Hid (∃ ts2 σ2 ad3 vals3, rr = .ok (ts2, σ2) ∧ ts2.length = names.length ∧ TRow w3 g1 vals1 ∧ RVs ad3 ts vals1 ∧ LI A B K gv fuel wv w ad own p gm eb #[.int .i64 dpt, .slice (some ⟨ng, 0, none⟩) names.length ncap, .slice (some ⟨gx, 0, none⟩) ps.length cap, q] ts2 σ2 o2 w3 ad3 g3 vals3)))) := by
      have hlt : names.length = ts.length := HLt.out.symm
      have hn1 := hgd.oth (by decide) HN.out.1
      have hrw := hF.row
      refine (withg_any (R := RV ad2) (ts := ts) (vals := vals1) (own := own) hlt hF.rv.1 (by have := HL.out; omega) (fun j h => by simp [World.cell?, hn1, HN.out.2 j h]) (fun j h => (TRow.kt hrw (Kt.of_kept (ad := []) hkd)).cell j h) (fun v hv => ?_) hF.rv.2 hTd.ch).mono ?_
      · obtain ⟨j, hj, rfl⟩ := List.mem_iff_getElem.1 hv
        exact .inr (hF.rv.2 j (by rw [← hF.rv.1]; exact hj) hj).iface
      · rintro e w2 ⟨q2, rfl, hc2, hk2⟩
        have hF2 := hFd.kept hk2
        have hg2 := hgd.trans (Gk.ofKt (Kt.of_kept hk2))
        obtain ⟨d0, d1, d2, d3⟩ := hF2.c
        refine ⟨q2, rfl, d0, d1, d2, d3, hF2.x (i := 1) rfl, ?_⟩
        refine (round_sx HKK.out.1 HKK.out.2 HFf.out hr1 hF2.ex HL.out.1 hm (hg2.oth (by decide) HX.out.1) HX.out.2 (fun j h h2 => (HPX.out j h h2).gk hg2) (hTd.kept HKK.out.1 hk2) hc2).mono ?_
        intro e w3 hE
        cases rr with
        | er j =>
          rcases HCa.out with ⟨j', ej, rfl⟩ | ⟨_, _, _, _, ej, _⟩
          · cases ej
            exact .inl ⟨_, hE.1, rfl, hE.2.1, (hg2.trans (Gk.ofKw hE.2.2)).kw⟩
          · cases ej
        | ok q3 =>
          obtain ⟨g3, vals3, ad3, rfl, hlo, hrow3, hrv3, hs3, hw3, hk3, hg3⟩ := hE
          have hF3 := hF2.gk hg3 (by decide)
          obtain ⟨f0, f1, f2, f3⟩ := hF3.c
          have hlen : q3.1.length = names.length := (rnd1_len hr1).trans HL.out.2.symm
          rw [hlen]
          have hrw3 : TRow w3 g1 vals1 := hg3.oth (by decide) (hk2.blk (hkd.blk hrw))
          exact .inr ⟨g3, rfl, f0, f1, f2, f3, hF3.x (i := 1) rfl, q3.1, q3.2, ad3, vals3, rfl, hlen, hrw3, hF.rv.gk hg3, hrow3, hrv3, (hTd.kept HKK.out.1 hk2).to hg3 hs3 hw3 hk3, hF3, hg2.trans hg3, Nat.le_trans hg2.kw.size hlo⟩
    obtain ⟨c0, c1, c2, c3⟩ := hFd.c
    have c4 := hFd.x (i := 1) (v := .slice (some ⟨ng, 0, none⟩) names.length ncap) rfl
    clear hr1 hcase hF hkd hFd hgd hTd HI HI1 HR1 HX HPX HT HB HF HH HK0 HFf HLn
    go_wp2_with fail
    go_region_held2 (fun w' => w'.cell? ⟨w.heap.size, 0, none⟩ = some (.int .i64 fuel) ∧ w'.cell? ⟨w.heap.size, 1, none⟩ = some wv ∧ w'.cell? ⟨w.heap.size + 1, 0, none⟩ = some (.pointer p) ∧ w'.cell? ⟨w.heap.size + 1, 1, none⟩ = some (.map (some gm)) ∧ w'.cell? ⟨eb, 1, none⟩ = some (.slice (some ⟨ng, 0, none⟩) names.length ncap)) (go_keep) (first | (go_at_call 141; refine Calls.mono HC.out ?_; rintro e w2 ⟨q2, rfl, d0, d1, d2, d3, d4, HD⟩; clear HC) | (go_at_call 181; refine Calls.mono HD.out ?_; rintro e w3 (⟨a, rfl, hE⟩ | ⟨g3, rfl, f0, f1, f2, f3, f4, HE⟩); exact ⟨rfl, hE⟩; clear HD))
    obtain ⟨ts2, σ2, ad3, vals3, rfl, hlen2, hrw3, hrv3, hL3⟩ := HE.out
    rcases HCa.out with ⟨j, ej, _⟩ | ⟨ts2', σ2', rt, o3, ej, htl, hca⟩
    · cases ej
    cases ej
    have HCb : Hid _ := hca
    have HC2 : Hid (Calls Tryz.prog 182 #[.agg #[.int .i64 fuel, wv], .slice (some ⟨ng, 0, none⟩) names.length ncap, .int .i64 rd, .slice (some ⟨g3, 0, none⟩) names.length names.length] w3.drew fun e w4 => (∃ a, e = thrown (.iface 342 (.pointer (some a))) ∧ RnO A B K ad w (thrown (.iface 342 (.pointer (some a)))) w4 res.2 res.1) ∨ (e = .returned (.tuple #[]) ∧ w4.cell? ⟨w.heap.size, 0, none⟩ = some (.int .i64 fuel) ∧ w4.cell? ⟨w.heap.size, 1, none⟩ = some wv ∧ w4.cell? ⟨eb, 1, none⟩ = some (.slice (some ⟨ng, 0, none⟩) names.length ncap) ∧ Hid (rt = .ok () ∧ TRow w4 g1 vals1 ∧ RVs ad3 ts vals1 ∧ LI A B K gv fuel wv w ad own p gm eb #[.int .i64 dpt, .slice (some ⟨ng, 0, none⟩) names.length ncap, .slice (some ⟨gx, 0, none⟩) ps.length cap, q] ts2 σ2 o3 w4 ad3 g3 vals3))) := by
      have hkd := Kept.drew w3
      have hTd := hL3.ti.kept HKK.out.1 hkd
      have hgd : Gk B ad ad3 w w3.drew := hL3.gk.trans (Gk.ofKt (Kt.of_kept hkd))
      have hrd3 : TRow w3.drew g3 vals3 := hkd.blk hL3.row
      have h0 := HTl.out names rd ts2 σ2 o2 (rt, o3) htl hlen2.symm (by omega) w3.drew ad3 ng ncap g3 ncur vals3 (hgd.oth (by decide) HN.out.1) HN.out.2 hrd3 hL3.rv hTd.sx hTd.ws hTd.ga hTd.k
      rw [hlen2] at h0
      refine h0.mono ?_
      intro e w4 hE
      cases rt with
      | er j =>
        rcases HCb.out with ⟨j', ej, rfl⟩ | ⟨_, ej, _⟩
        · cases ej
          exact .inl ⟨_, hE.1, rfl, hE.2.1, (hgd.trans (Gk.ofKw hE.2.2)).kw⟩
        · cases ej
      | ok u =>
        obtain ⟨rfl, hs4, hk4, hw4⟩ := hE
        have hg4 : Gk B ad3 ad3 w3.drew w4 := Gk.ofKw hw4
        have hF4 := (hL3.fx.kept hkd).gk hg4 (by decide)
        obtain ⟨m0, m1, m2, m3⟩ := hF4.c
        have hr1 : TRow w4 g1 vals1 := hg4.oth (by decide) (hkd.blk hrw3)
        have hr3 : TRow w4 g3 vals3 := hg4.oth (by decide) hrd3
        exact .inr ⟨rfl, m0, m1, hF4.x (i := 1) rfl, rfl, hr1, hrv3, hr3, hL3.rv, hTd.to hg4 hs4 hTd.ws hk4, hF4, hgd.trans hg4, hL3.low⟩
    have e0 : w3.drew.cell? ⟨w.heap.size, 0, none⟩ = some (.int .i64 fuel) := f0
    have e1 : w3.drew.cell? ⟨w.heap.size, 1, none⟩ = some wv := f1
    have e4 : w3.drew.cell? ⟨eb, 1, none⟩ = some (.slice (some ⟨ng, 0, none⟩) names.length ncap) := f4
    clear hca htl hL3 hrv3 hrw3 HE HCa HN HTl
    have HL2 : Hid _ := hlen2
    clear hlen2
    go_wp2_with fail
    go_region_held2 (fun w' => w'.cell? ⟨w.heap.size, 0, none⟩ = some (.int .i64 fuel) ∧ w'.cell? ⟨w.heap.size, 1, none⟩ = some wv ∧ w'.cell? ⟨eb, 1, none⟩ = some (.slice (some ⟨ng, 0, none⟩) names.length ncap)) (go_keep) (first | (go_at_call 182; refine Calls.mono HC2.out ?_; rintro e w4 (⟨a, rfl, hE⟩ | ⟨rfl, m0, m1, m2, HM⟩); exact ⟨rfl, hE⟩; clear HC2))
    obtain ⟨rfl, hr1, hrv1, hL4⟩ := HM.out
    rcases HCb.out with ⟨_, ej, _⟩ | ⟨b, _, hsm, hfin⟩
    · cases ej
    have HFi : Hid _ := hfin
    have HS : Hid (Calls Tryz.prog 183 #[.slice (some ⟨g1, 0, none⟩) names.length names.length, .slice (some ⟨g3, 0, none⟩) names.length names.length] w4 fun e w5 => e = .returned (.bool b) ∧ w5.cell? ⟨w.heap.size, 0, none⟩ = some (.int .i64 fuel) ∧ Hid (LI A B K gv fuel wv w ad own p gm eb #[.int .i64 dpt, .slice (some ⟨ng, 0, none⟩) names.length ncap, .slice (some ⟨gx, 0, none⟩) ps.length cap, q] ts2 σ2 o3 w5 ad3 g3 vals3)) := by
      have h0 := sames_sx (cap := names.length) (cap2 := names.length) hsm (HL2.out.trans HLt.out.symm) (by have := HLt.out; have := HL.out; omega) hL4.ti.sx hr1 hL4.row hrv1 hL4.rv
      rw [show ts.length = names.length from HLt.out] at h0
      refine h0.mono ?_
      rintro e w5 ⟨rfl, hs5, hk5⟩
      have hg5 : Gk B ad3 ad3 w4 w5 := Gk.ofKt hk5
      have hF5 := hL4.fx.gk hg5 (by decide)
      exact ⟨rfl, hF5.c.1, TRow.kt hL4.row hk5, hL4.rv, hL4.ti.to hg5 hs5 hL4.ti.ws (HKK.out.1 _ _ _ _ hL4.ti.k hk5), hF5, hL4.gk.trans hg5, hL4.low⟩
    clear hfin hsm hL4 hrv1 hr1 HM HCb
    rcases HFi.out with ⟨rfl, rfl⟩ | ⟨rfl, hrf, rfl⟩ | ⟨rfl, hrf, hnx⟩
    · go_wp2_with fail
      refine Calls.mono HS.out ?_
      rintro e w5 ⟨rfl, n0, HL5⟩
      clear HS
      have HE5 : Hid (RnO A B K ad w (.returned (.slice (some ⟨g3, 0, none⟩) names.length names.length)) w5 o3 (.ok (ts2, σ2))) := by
        have h := HL5.out
        exact ⟨g3, vals3, ad3, by rw [HL2.out], h.low, h.row, h.rv, h.ti.sx, h.ti.ws, h.ti.k, h.gk⟩
      clear HL5
      go_wp2
      exact bodyPost_ret (results_tmp Tryz.results166 _ _ _) rfl HE5.out
    · subst hrf
      go_wp2_with fail
      refine Calls.mono HS.out ?_
      rintro e w5 ⟨rfl, n0, HL5⟩
      clear HS
      have hg := HL5.out.ti.ga.glb.c5
      have HR5 : Hid _ := prefuse_es (A 5) w5
      have HE5 : Hid (RnO A B K ad w (thrown (.iface 342 (.pointer (some (A 5))))) w5 o3 (.er 5)) := ⟨rfl, HL5.out.ti.k, HL5.out.gk.kw⟩
      clear HL5
      go_wp2_with fail
      refine Calls.mono HR5.out ?_
      rintro e w' ⟨rfl, hww⟩
      rw [hww]
      clear hww w' HR5
      go_wp2
      exact ⟨rfl, HE5.out⟩
    · go_wp2_with fail
      refine Calls.mono HS.out ?_
      rintro e w5 ⟨rfl, n0, HL5⟩
      clear HS
      have hri : ¬ (rd : Int) = (fuel : Int) := by omega
      have HNX : Hid _ := hnx
      clear hnx
      go_wp2
      go_roundw
      case measure => simp [intOf]; omega
      case rel => exact ⟨k, rd + 1, ts2, σ2, o3, ad3, g3, vals3, by omega, rfl, by go_num, HL2, HNX, HL5⟩
end
end Go.Proofs.YtleenphlgbklmabGreatDoor

namespace Go.Proofs.YtleenphlgbklmabGreatDoor
open Go.RowKit

theorem Tryz.infoTTP : (Tryz.prog.info? 120).map (fun i => (i.zero, i.size, i.bytes)) = some (some (.pointer none), 1, 8) := by kernel_rfl
theorem set_alloc1 (w : World) (x v : Value) (T : TypeId) : (w.alloc (.cells #[x] T)).setCell ⟨w.heap.size, 0, none⟩ v = w.alloc (.cells #[v] T) := by
  show ({ w with heap := (w.heap.push (.cells #[x] T)).modify w.heap.size _ } : World) = { w with heap := w.heap.push (.cells #[v] T) }
  congr 1
  apply Array.ext_getElem?
  intro i
  rw [Array.getElem?_modify, Array.getElem?_push, Array.getElem?_push]
  by_cases e : w.heap.size = i
  · subst e; simp
  · have e2 : i ≠ w.heap.size := fun q => e q.symm
    simp [e, e2]
theorem store_fn (w : World) (K : FuncId) (caps : Array Value) : (store ⟨w.heap.size, 0, none⟩ (.func (.func K) #[] caps)).run Tryz.prog (w.alloc (.cells #[.nilFunc] 81)) = .ok () (w.alloc (.cells #[.func (.func K) #[] caps] 81)) := by
  rw [run_store Tryz.prog _ _ _ _ (by rfl)]
  have hb := heap_alloc_new w (.cells #[.nilFunc] 81)
  have h1 : (w.alloc (.cells #[.nilFunc] 81)).cell? ⟨w.heap.size, 0, none⟩ = some .nilFunc := by rw [World.cell?]; simp only [hb]; rfl
  have h2 : (w.alloc (.cells #[.nilFunc] 81)).frozen? ⟨w.heap.size, 0, none⟩ = false := by rw [World.frozen?]; simp only [hb]; rfl
  rw [h1, h2, set_alloc1]
  rfl
/-- a writing goes on behind a name that was given. -/
theorem tx_step {E : WE} {w w' : World} {l l' : List Nat} {sp : List Sp} {es : List (TR × Nat × Nat)} {mb : Nat} (h : E.TX w l sp es) (hk : Kt E.ad (· = mb) w w') (hmb : mb < E.B) (hns : E.ok w' l') (hst : SX w' E.ad E.σ) (hl : l <+: l') : E.TX w' l' sp es := by
  refine ⟨TL.kt h.tl hk (fun q hq => by rw [show q = mb from hq]; exact hmb), TMp.kt h.mp hk (fun z => by have := h.pB; have z : E.pm = mb := z; omega), hst, hns, Nat.le_trans h.bs hk.size, h.pB, h.adB, ?_⟩
  intro e he
  obtain ⟨T, q1, q2, q3, q4, q5⟩ := h.pcs e he
  exact ⟨T, q1, q2, q3, q4, varsM_idem q1.wt l _ (by rw [q5]; exact hl)⟩
section
variable {ad : List Nat} {σ : St} {B b pm nb mb gb ob : Nat} {L : List Nat}
theorem num_core {w : World} {l : List Nat} (hN : NOk ad σ B nb mb w l) (hst : SX w ad σ) (n c : Nat) (nm : ByteArray) (g : Bool) (s : Option TR) (hn : σ[n]? = some ⟨.vr nm g, s⟩) (hc : ad[n]? = some c) (hL : L.length ≤ 260) (hp : varsM (.mk { data := #[] } n []) l <+: L) :
    Calls Tryz.prog 57 #[.pointer (some ⟨c, 0, none⟩), .pointer (some ⟨nb, 0, none⟩)] w fun e w' => ∃ j, e = .returned (.string (letM j)) ∧ NOk ad σ B nb mb w' (varsM (.mk { data := #[] } n []) l) ∧ SX w' ad σ ∧ Kt ad (· = mb) w w' ∧ (varsM (.mk { data := #[] } n []) l)[j]? = some n := by
  have h260 := Nat.le_trans hp.length_le hL
  have hl : l <+: varsM (.mk { data := #[] } n []) l := varsM_pre (m := n + 1) (.var n (by omega)) l
  have gd : ∀ x, x ∈ l → ∃ q, ad[x]? = some q ∧ VBk w q := fun x hx => by
    obtain ⟨nm, g, s, hx⟩ := hN.vr x hx
    exact SX.vbk hst hx
  have hgc : ad.getD n 0 = c := by simp [List.getD, hc]
  have hst0 := hst
  obtain ⟨τ, hsw, _⟩ := hst0
  have hinj : ∀ x, x ∈ l → ad.getD n 0 = ad.getD x 0 → n = x := fun x hx e => by
    obtain ⟨q, hq, _⟩ := gd x hx
    have e2 : ad.getD x 0 = q := by simp [List.getD, hq]
    rw [hgc, e2] at e
    subst e
    exact nodup_get hsw.inj hc hq
  have hV : VBk w c := by
    obtain ⟨c', h1, h2⟩ := SX.vbk hst hn
    have h1 : ad[n]? = some c' := h1
    rw [hc] at h1
    simp at h1
    subst h1
    exact h2
  have hNM : NM w mb (l.map fun n => ad.getD n 0) := ⟨by rw [hN.mp]; simp, fun q hq => by
    obtain ⟨x, hx, rfl⟩ := List.mem_map.1 hq
    obtain ⟨q, hq, hb⟩ := gd x hx
    have : ad.getD x 0 = q := by simp [List.getD, hq]
    rw [this]
    exact hb⟩
  have hc0 : w.cell? ⟨nb, 0, none⟩ = some (.map (some mb)) := by simp [World.cell?, hN.nbc]
  have hi := idx_map (fun n => ad.getD n 0) n l hinj
  simp only [hgc] at hi
  have hvl := varsM_leaf n l
  cases hj : l.findIdx? (fun x => n == x) with
  | some j =>
    have hjs := idx_some hj
    have hin : inB l n = true := List.contains_iff_mem.2 (List.mem_of_getElem? hjs)
    have hjl := (List.getElem?_eq_some_iff.1 hjs).1
    rw [hin] at hvl
    simp only [if_true] at hvl
    rw [hvl] at h260 ⊢
    refine (pnum_old w nb mb _ _ hc0 hNM hV j (hi.trans hj) (by omega)).mono ?_
    rintro e w' ⟨rfl, hww⟩
    subst hww
    exact ⟨j, rfl, hN, hst, Kt.refl _ _ _, hjs⟩
  | none =>
    have hin : inB l n = false := by
      rw [Bool.eq_false_iff]
      exact fun z => idx_none hj (List.contains_iff_mem.1 z)
    rw [hin] at hvl
    simp only [Bool.false_eq_true, if_false] at hvl
    rw [hvl] at h260 hl ⊢
    simp at h260
    refine (pnum_new w nb mb _ _ hc0 hNM hV (hi.trans hj) (by simp; omega)).mono ?_
    rintro e w' ⟨rfl, hM, hk⟩
    have hmp := hN.mp
    have hkt : Kt ad (· = mb) w w' := Kt.of_kp hk
    have hne : nb ≠ mb := fun z => by
      have a := hN.nbc
      rw [z, hmp] at a
      cases a
    refine ⟨l.length, by simp, ⟨hk.blk hN.nbc hne, hN.nbB, hN.mbB, ?_, ?_⟩, hst.keep (fun a o ha hb => hk.blk hb (fun z => ?_)), hkt, by simp⟩
    · have := hM.mp
      rw [this, List.map_append]
      simp only [List.map_cons, List.map_nil, hgc, List.length_append, List.length_map, List.length_cons, List.length_nil]
    · intro x hx
      simp at hx
      rcases hx with hx | rfl
      · exact hN.vr x hx
      · exact ⟨nm, g, s, hn⟩
    · obtain ⟨o', h1, cs, ty, f, rfl, _⟩ := hsw.tb ha
      rw [show a = mb from z, hmp] at h1
      cases h1
/-- names in order, as layOutSchemes asks for them. -/
structure NOl (ad : List Nat) (σ : St) (B nb mb gb : Nat) (w : World) (l : List Nat) : Prop where
  nk : NOk ad σ B nb mb w l
  gbc : w.heap[gb]? = some (.cells #[.func (.func 57) #[] #[.pointer (some ⟨nb, 0, none⟩)]] 81 (0, 0))
  gbB : gb < B
theorem NOl.okk (ad : List Nat) (σ : St) (B nb mb gb : Nat) : OkK ad B (NOl ad σ B nb mb gb) := by
  intro w w' l h k
  refine ⟨NOk.okk _ _ _ _ _ _ _ _ h.nk k, k.blk _ _ h.gbc (fun z => by have z : B ≤ gb := z; have := h.gbB; omega) ?_, h.gbB⟩
  rintro ⟨cs, e, f, he, ht⟩
  simp only [Obj.cells.injEq] at he
  obtain ⟨_, rfl, _⟩ := he
  rcases ht with e | e | e | e <;> cases e
def WL (ad : List Nat) (σ : St) (B b pm nb mb gb ob : Nat) (L : List Nat) : WE := ⟨ad, σ, B, b, pm, .func (.func 199) #[] #[.pointer (some ⟨gb, 0, none⟩), .pointer (some ⟨ob, 0, none⟩)], cnN L, NOl ad σ B nb mb gb, (· = mb), L⟩
theorem SX.vbk3 {w : World} (h : SX w ad σ) {n : Nat} {nm : ByteArray} {g : Bool} {s : Option TR} (hn : σ[n]? = some ⟨.vr nm g, s⟩) : ∃ c sv, ad[n]? = some c ∧ w.heap[c]? = some (.cells #[sv, .string nm, .bool g] 148 (0, 0)) := by
  obtain ⟨τ, h1, h2⟩ := h
  obtain ⟨s', h3, _⟩ := h2.kk n _ _ hn
  have hlt := (List.getElem?_eq_some_iff.1 h3).1
  have hlt : n < ad.length := by rw [h1.len]; exact hlt
  obtain ⟨sv, o, h4, _, h5⟩ := h1.blk n _ _ (ad[n]) h3 (by simp)
  refine ⟨ad[n], sv, by simp, ?_⟩
  rw [h4]
  exact congrArg some h5
set_option maxRecDepth 20000 in
theorem los_step {w : World} {l : List Nat} {sp : List Sp} {es : List (TR × Nat × Nat)} (h : (WL ad σ B b pm nb mb gb ob L).TX w l sp es) (n c : Nat) (nm : ByteArray) (s : Option TR) (hn : σ[n]? = some ⟨.vr nm true, s⟩) (hc : ad[n]? = some c) (hL : L.length ≤ 260) (hp : varsM (.mk { data := #[] } n []) l <+: L) :
    Calls Tryz.prog 199 #[.pointer (some ⟨c, 0, none⟩), .pointer (some ⟨gb, 0, none⟩), .pointer (some ⟨ob, 0, none⟩)] w fun e w' => ∃ j, e = .returned (.string (letM j)) ∧ (WL ad σ B b pm nb mb gb ob L).TX w' (varsM (.mk { data := #[] } n []) l) sp es ∧ Kt ad (SN B (· = mb)) w w' ∧ (varsM (.mk { data := #[] } n []) l)[j]? = some n := by
  have hN : NOl ad σ B nb mb gb w l := h.ns
  have hst : SX w ad σ := h.st
  obtain ⟨c', sv, hc', hv⟩ := SX.vbk3 hst hn
  rw [hc] at hc'
  simp only [Option.some.injEq] at hc'
  subst hc'
  have c2 : w.cell? ⟨c, 2, none⟩ = some (.bool true) := by simp [World.cell?, hv]
  have g0 : w.cell? ⟨gb, 0, none⟩ = some (.func (.func 57) #[] #[.pointer (some ⟨nb, 0, none⟩)]) := by simp [World.cell?, hN.gbc]
  have hl : l <+: varsM (.mk { data := #[] } n []) l := varsM_pre (m := n + 1) (.var n (by omega)) l
  have HC : Hid _ := num_core hN.nk hst n c nm true s hn hc hL hp
  have HT : Hid _ := h
  have HNL : Hid _ := hN
  have HPL : Hid _ := hl
  clear h hN hst hv hn hc hp hl
  go_enter Tryz.func199, Tryz.ntmps199
  go_wp2_with fail
  refine Calls.mono HC.out ?_
  rintro e w' ⟨j, rfl, hN', hs', hk, hj⟩
  have hgb' := hk.blk gb _ HNL.out.gbc (fun z => by have z : gb = mb := z; have a := HNL.out.nk.mp; rw [← z, HNL.out.gbc] at a; cases a) (by
    rintro ⟨cs, e, f, he, ht⟩
    simp only [Obj.cells.injEq] at he
    obtain ⟨_, rfl, _⟩ := he
    rcases ht with e | e | e | e <;> cases e)
  have HF : Hid ((WL ad σ B b pm nb mb gb ob L).TX w' (varsM (.mk { data := #[] } n []) l) sp es ∧ Kt ad (SN B (· = mb)) w w') := ⟨tx_step (E := WL ad σ B b pm nb mb gb ob L) HT.out hk HNL.out.nk.mbB ⟨hN', hgb', HNL.out.gbB⟩ hs' HPL.out, hk.mono (fun q _ hq => .inr hq)⟩
  clear HC hN' hs' hk hgb'
  go_wp2
  go_ret
  exact ⟨j, rfl, HF.out.1, HF.out.2, hj⟩
end
set_option maxRecDepth 20000 in
set_option maxHeartbeats 1000000 in
theorem first_los (ad : List Nat) (σ : St) (B b pm nb mb gb ob : Nat) (L : List Nat) (hE : (WL ad σ B b pm nb mb gb ob L).Ok) (hgen : ∀ n, n ∈ L → ∃ nm s, σ[n]? = some ⟨.vr nm true, s⟩) (hd : L.Nodup) (hL : L.length ≤ 260) (n : Nat) (nm : ByteArray) (g : Bool) (hnd : σ[n]? = some ⟨.vr nm g, none⟩) : SFst (WL ad σ B b pm nb mb gb ob L) (.nd .vr n) (.mk { data := #[] } n []) := by
  intro w v l sp es hv h hp hn hl
  have hsz : sz (.mk { data := #[] } n []) = 1 := by simp [sz, szs]
  rw [hsz] at hn hl ⊢
  obtain ⟨c, hc, rfl⟩ := hv
  have hc : ad[n]? = some c := hc
  rw [show Kd.vr.tp = 124 from rfl]
  show Calls Tryz.prog 126 #[.pointer (some ⟨b, 0, none⟩), _] w _
  have hin : n ∈ L := by
    have hm : n ∈ varsM (.mk { data := #[] } n []) l := by
      have hvl := varsM_leaf n l
      rw [hvl]
      split
      · rename_i z
        exact List.contains_iff_mem.1 z
      · simp
    exact hp.subset hm
  obtain ⟨nm2, s2, hg2⟩ := hgen n hin
  have HN : Hid _ := los_step h n c nm2 s2 hg2 hc hL hp
  have HS : Hid (∀ (w' : World) (j : Nat), (WL ad σ B b pm nb mb gb ob L).TX w' (varsM (.mk { data := #[] } n []) l) sp es → Calls Tryz.prog 157 #[.pointer (some ⟨b, 0, none⟩), .string (letM j)] w' fun e w'' => e = .returned (.tuple #[]) ∧ (WL ad σ B b pm nb mb gb ob L).TX w'' (varsM (.mk { data := #[] } n []) l) (sp ++ [.tk (letM j)]) es ∧ Kt ad (SN B (· = mb)) w' w'') := fun w' j hT => tok_step _ hE w' _ sp es hT (letM j) (letM_pos j) (by have := letM_size j; omega) (by omega)
  have t1 := Tryz.taVB (.pointer (some ⟨c, 0, none⟩)) w
  have t2 := Tryz.taVV (.pointer (some ⟨c, 0, none⟩)) w
  have c0 : w.cell? ⟨b, 0, none⟩ = some (.func (.func 199) #[] #[.pointer (some ⟨gb, 0, none⟩), .pointer (some ⟨ob, 0, none⟩)]) := h.tl.c.1
  have HG : Hid (∀ j, (varsM (.mk { data := #[] } n []) l)[j]? = some n → shT (cnN L) (.mk { data := #[] } n []) = letM j) := fun j hj => (shT_var _ n).trans (cnN_get hp hd hj)
  clear h hp hnd hc hin hg2 hgen
  go_enter Tryz.func126, Tryz.ntmps126
  go_wp2_with fail
  refine Calls.mono HN.out ?_
  rintro e w2 ⟨j, rfl, hT, hk, hj⟩
  have HS2 : Hid _ := HS.out w2 j hT
  clear HS HN hT
  go_wp2_with fail
  refine Calls.mono HS2.out ?_
  rintro e w3 ⟨rfl, hT3, hk3⟩
  go_wp2
  go_end0
  have e := HG.out j hj
  refine ⟨rfl, sp ++ [.tk (letM j)], es, hT3, ?_, ?_, by simp, fun e he => .inl he, hk.trans hk3⟩
  · show _ = decS sp ++ shT (cnN L) _
    rw [e, decS_tk]
  · rw [decS_tk_size]; have := letM_size j; omega
/-- layOut, as layOutSchemes asks for it. -/
theorem lay_los (w : World) (nb mb gb ob : Nat) (ad : List Nat) (σ : St) (r : TR) (t : Ty) (v : Value) (hs : SX w ad σ) (hv : RV ad r v) (hd : Dn σ r t) (hsz : sz t ≤ 260) (hnb : w.heap[nb]? = some (.cells #[.map (some mb)] 123 (0, 0))) (hm : w.heap[mb]? = some (.map #[] 0)) (hgb : w.heap[gb]? = some (.cells #[.func (.func 57) #[] #[.pointer (some ⟨nb, 0, none⟩)]] 81 (0, 0))) (hgen : ∀ n, n ∈ varsM t [] → ∃ nm s, σ[n]? = some ⟨.vr nm true, s⟩) :
    Calls Tryz.prog 55 #[v, .func (.func 199) #[] #[.pointer (some ⟨gb, 0, none⟩), .pointer (some ⟨ob, 0, none⟩)]] w fun e w' => ∃ b pm sp, e = .returned (.pointer (some ⟨b, 0, none⟩)) ∧ TL w' w.heap.size b pm (.func (.func 199) #[] #[.pointer (some ⟨gb, 0, none⟩), .pointer (some ⟨ob, 0, none⟩)]) sp ∧ decS sp = canT t ∧ SX w' ad σ ∧ Kt ad (· = mb) w w' := by
  have hnd : (varsM t []).Nodup := varsM_nodup hd.wt [] List.nodup_nil
  have hL : (varsM t []).length ≤ 260 := by have := (varsM_len t []).2; simp at this; omega
  have hmb := lt_of_block hm
  refine (lay_any w v ad σ r t 199 #[.pointer (some ⟨gb, 0, none⟩), .pointer (some ⟨ob, 0, none⟩)] (cnN (varsM t [])) (NOl ad σ w.heap.size nb mb gb) (· = mb) (varsM t []) hs hv hd ⟨⟨hnb, lt_of_block hnb, hmb, by simpa [nFrom] using hm, by simp⟩, hgb, lt_of_block hgb⟩ (NOl.okk _ _ _ _ _ _) (fun q hq => by rw [show q = mb from hq]; exact hmb) (cnN_short _) ?_ (List.prefix_refl _) (by omega)).mono ?_
  · intro b pm i nm g hi
    exact first_los ad σ w.heap.size b pm nb mb gb ob _ ⟨NOl.okk _ _ _ _ _ _, (fun q hq => by rw [show q = mb from hq]; exact hmb), cnN_short _⟩ hgen hnd hL i nm g hi
  · rintro e w' ⟨b, pm, sp, es, rfl, hT, hdx, hk⟩
    exact ⟨b, pm, sp, rfl, hT.tl, hdx, hT.st, hk⟩
end Go.Proofs.YtleenphlgbklmabGreatDoor
