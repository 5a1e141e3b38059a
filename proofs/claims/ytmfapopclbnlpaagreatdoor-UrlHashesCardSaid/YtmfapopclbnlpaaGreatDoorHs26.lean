import Derived.Test.YtmfapopclbnlpaaGreatDoorProg
import Derived.ProofKit
import Derived.Test.YtmfapopclbnlpaaGreatDoorHs6
import Derived.Test.YtmfapopclbnlpaaGreatDoorHs23
import Derived.Test.YtmfapopclbnlpaaGreatDoorHs25
set_option linter.unusedVariables false
set_option linter.unusedSimpArgs false
set_option maxRecDepth 100000
set_option maxHeartbeats 4000000
namespace Go.Proofs.YtmfapopclbnlpaaGreatDoor
open Go Go.Proofs Go.RowKit Go.Vc
section
def o8:cp:=bP [(131,om)]
def o9(sc us pw:Bs)(hk:Int)(hs:Bs)(hn:Int)(hp:List Int)(port:Int)(opq pn:Bool)(pl:List Bs)(hq:Bool)(q:Bs)(hf:Bool)(fg:Bs)(bare sp:Bool)(rst:Bs)(bsc bus bpw:Bs)(bhk:Int)(bhs:Bs)(bhn:Int)(bhp:List Int)(bport:Int)(bopq bpn:Bool)(bpl:List Bs)(bhq:Bool)(bq:Bs)(bhf:Bool)(bfg:Bs):ba:=fun i=>none
theorem rJ:cR Tryz.prog aA o8:=ai vS (ax)
theorem vT(sc us pw:Bs)(hk:Int)(hs:Bs)(hn:Int)(hp:List Int)(port:Int)(opq pn:Bool)(pl:List Bs)(hq:Bool)(q:Bs)(hf:Bool)(fg:Bs)(bare sp:Bool)(rst:Bs)(bsc bus bpw:Bs)(bhk:Int)(bhs:Bs)(bhn:Int)(bhp:List Int)(bport:Int)(bopq bpn:Bool)(bpl:List Bs)(bhq:Bool)(bq:Bs)(bhf:Bool)(bfg:Bs)(k:PV→List PV→Prop):bQ Tryz.prog o8 aA (o9 sc us pw hk hs hn hp port opq pn pl hq q hf fg bare sp rst bsc bus bpw bhk bhs bhn bhp bport bopq bpn bpl bhq bq bhf bfg) 1000 Tryz.f85 [.ptr 0 0] [aE 1 (.ptr 1 0) sc us pw hk hs hn hp port opq pn pl hq q hf fg bare sp rst,bE 0 bsc bus bpw bhk bhs bhn bhp bport bopq bpn bpl bhq bq bhf bfg] k=(
 bpl.length.le (1000000:Nat)∧
 k (PV.tup []) [bT (PV.ptr (1:Nat) (0:Nat)) 1 sc us pw hk hs hn hp port opq bpn bpl hq q hf fg bare sp rst,bE (0:Nat) bsc bus bpw bhk bhs bhn bhp bport bopq bpn bpl bhq bq bhf bfg]):=by kernel_rfl
attribute [local irreducible] Go.Vc.cB Go.Vc.bQ
theorem rK(sc us pw:Bs)(hk:Int)(hs:Bs)(hn:Int)(hp:List Int)(port:Int)(opq pn:Bool)(pl:List Bs)(hq:Bool)(q:Bs)(hf:Bool)(fg:Bs)(bare sp:Bool)(rst:Bs)(bsc bus bpw:Bs)(bhk:Int)(bhs:Bs)(bhn:Int)(bhp:List Int)(bport:Int)(bopq bpn:Bool)(bpl:List Bs)(bhq:Bool)(bq:Bs)(bhf:Bool)(bfg:Bs):bt Tryz.prog aA 85 [.ptr 0 0] [aE 1 (.ptr 1 0) sc us pw hk hs hn hp port opq pn pl hq q hf fg bare sp rst,bE 0 bsc bus bpw bhk bhs bhn bhp bport bopq bpn bpl bhq bq bhf bfg] (bpl.length≤1000000) (.tup []) [aE 1 (.ptr 1 0) sc us pw hk hs hn hp port opq bpn bpl hq q hf fg bare sp rst,bE 0 bsc bus bpw bhk bhs bhn bhp bport bopq bpn bpl bhq bq bhf bfg]:=bG (by kernel_rfl) rJ (H:=o9 sc us pw hk hs hn hp port opq pn pl hq q hf fg bare sp rst bsc bus bpw bhk bhs bhn bhp bport bopq bpn bpl bhq bq bhf bfg) (fuel:=1000) Tryz.func85 (by kernel_rfl) (Nat.le_of_ble_eq_true rfl) fun hpre=>(vT sc us pw hk hs hn hp port opq pn pl hq q hf fg bare sp rst bsc bus bpw bhk bhs bhn bhp bport bopq bpn bpl bhq bq bhf bfg _).mpr (by
 exact ⟨hpre,rfl,rfl⟩)
theorem vU(sc us pw:Bs)(hk:Int)(hs:Bs)(hn:Int)(hp:List Int)(port:Int)(opq pn:Bool)(pl:List Bs)(hq:Bool)(q:Bs)(hf:Bool)(fg:Bs)(bare sp:Bool)(rst:Bs)(bsc bus bpw:Bs)(bhk:Int)(bhs:Bs)(bhn:Int)(bhp:List Int)(bport:Int)(bopq bpn:Bool)(bpl:List Bs)(bhq:Bool)(bq:Bs)(bhf:Bool)(bfg:Bs):ag Tryz.prog aA 85 [.ptr 0 0,aE 1 (.ptr 1 0) sc us pw hk hs hn hp port opq pn pl hq q hf fg bare sp rst,bE 0 bsc bus bpw bhk bhs bhn bhp bport bopq bpn bpl bhq bq bhf bfg] ⟨bpl.length≤1000000,.tup [.tup [],aE 1 (.ptr 1 0) sc us pw hk hs hn hp port opq bpn bpl hq q hf fg bare sp rst,bE 0 bsc bus bpw bhk bhs bhn bhp bport bopq bpn bpl bhq bq bhf bfg]⟩:=ag.bg (fun h=>by have e:List.isEmpty (PV.aB PV.bD [.ptr 0 0,aE 1 (.ptr 1 0) sc us pw hk hs hn hp port opq pn pl hq q hf fg bare sp rst,bE 0 bsc bus bpw bhk bhs bhn bhp bport bopq bpn bpl bhq bq bhf bfg])=false:=(by kernel_rfl);exact Bool.noConfusion (e.symm.trans (congrArg List.isEmpty h))) (rK sc us pw hk hs hn hp port opq pn pl hq q hf fg bare sp rst bsc bus bpw bhk bhs bhn bhp bport bopq bpn bpl bhq bq bhf bfg)
def il:List PV→Option aG:=fun xs=>match xs with
 |[.ptr 0 0,aE 1 (.ptr 1 0) sc us pw hk hs hn hp port opq pn pl hq q hf fg bare sp rst,bE 0 bsc bus bpw bhk bhs bhn bhp bport bopq bpn bpl bhq bq bhf bfg]=>some ⟨bpl.length≤1000000,.tup [.tup [],aE 1 (.ptr 1 0) sc us pw hk hs hn hp port opq bpn bpl hq q hf fg bare sp rst,bE 0 bsc bus bpw bhk bhs bhn bhp bport bopq bpn bpl bhq bq bhf bfg]⟩
 |_=>none
theorem oo:∀xs c,il xs=some c→ag Tryz.prog aA 85 xs c:=fun xs c h=>by
 unfold il at h
 split at h
 ·injection h with h;subst h;exact vU _ _ _ _ _ _ _ _ _ _ _ _ _ _ _ _ _ _ _ _ _ _ _ _ _ _ _ _ _ _ _ _ _
 ·cases h
end
section
def Ck:cp:=bP [(82,j8),(84,gh),(77,hH),(85,il),(86,lJ),(122,ka),(90,od)]
def Cl(sc us pw:Bs)(hk:Int)(hs:Bs)(hn:Int)(hp:List Int)(port:Int)(opq pn:Bool)(pl:List Bs)(hq:Bool)(q:Bs)(hf:Bool)(fg:Bs)(bare sp:Bool)(rst:Bs)(bsc bus bpw:Bs)(bhk:Int)(bhs:Bs)(bhn:Int)(bhp:List Int)(bport:Int)(bopq bpn:Bool)(bpl:List Bs)(bhq:Bool)(bq:Bs)(bhf:Bool)(bfg:Bs):ba:=fun i=>none
theorem AY:cR Tryz.prog aA Ck:=ai rE (ai lI (ai j9 (ai oo (ai sA (ai rG (ai vJ (ax)))))))
theorem Hf(sc us pw:Bs)(hk:Int)(hs:Bs)(hn:Int)(hp:List Int)(port:Int)(opq pn:Bool)(pl:List Bs)(hq:Bool)(q:Bs)(hf:Bool)(fg:Bs)(bare sp:Bool)(rst:Bs)(bsc bus bpw:Bs)(bhk:Int)(bhs:Bs)(bhn:Int)(bhp:List Int)(bport:Int)(bopq bpn:Bool)(bpl:List Bs)(bhq:Bool)(bq:Bs)(bhf:Bool)(bfg:Bs)(k:PV→List PV→Prop):bQ Tryz.prog Ck aA (Cl sc us pw hk hs hn hp port opq pn pl hq q hf fg bare sp rst bsc bus bpw bhk bhs bhn bhp bport bopq bpn bpl bhq bq bhf bfg) 1000 Tryz.f76 [.ptr 0 0] [aE 1 (.ptr 1 0) sc us pw hk hs hn hp port opq pn pl hq q hf fg bare sp rst,bE 0 bsc bus bpw bhk bhs bhn bhp bport bopq bpn bpl bhq bq bhf bfg] k=(
 (((0:Int)≤(0:Int)∧
 (0:Int)<(1000:Int))∧
 az sp rst (0:Int)=false)∧
 (false=true→
 (((0:Int)≤(1:Int)∧
 (1:Int)<(1000:Int))∧
 az sp rst (1:Int)=false)∧
 (false=true→
 upto (2:Int) (ak rst) (ak rst)∧
 False∧
 False)∧
 (false=false→
 az sp rst (0:Int)=false∧
 (false=true→
 False)∧
 (false=false→
 bsc=sc∧
 ((!true)=true→
 (List.length rst≤(300000:Nat)∧
 pl.length≤(100000:Nat))∧
 k (PV.int .i64 (0:Int)) [bT (PV.ptr (1:Nat) (0:Nat)) 1 sc us pw (1:Int) hs hn hp port opq ((bC sp sc (ae rst ↑(aF rst)) (pn,pl)).1) ((bC sp sc (ae rst ↑(aF rst)) (pn,pl)).2) hq q hf fg bare sp (aa rst ↑(aF rst)),bE (0:Nat) bsc bus bpw bhk bhs bhn bhp bport bopq bpn bpl bhq bq bhf bfg])∧
 ((!true)=false→
 bpl.length.le (1000000:Nat)∧
 bz rst=false∧
 (false=true→
 k (PV.int .i64 (0:Int)) [bT (PV.ptr (1:Nat) (0:Nat)) 1 sc us pw bhk bhs bhn bhp port opq bpn bpl hq q hf fg bare sp rst,bE (0:Nat) bsc bus bpw bhk bhs bhn bhp bport bopq bpn bpl bhq bq bhf bfg])∧
 (false=false→
 (List.length rst≤(300000:Nat)∧
 bpl.length≤(1000000:Nat)∧
 bw rst=false)∧
 (List.length rst≤(300000:Nat)∧
 (RS.mk sc us pw bhk bhs bhn bhp port opq bpn bpl hq q hf fg bare sp rst).short.pl.length≤(100000:Nat))∧
 k (PV.int .i64 (0:Int)) [bT (PV.ptr (1:Nat) (0:Nat)) 1 sc us pw bhk bhs bhn bhp port opq ((bC sp sc (ae rst ↑(aF rst)) ((RS.mk sc us pw bhk bhs bhn bhp port opq bpn bpl hq q hf fg bare sp rst).short.pn,(RS.mk sc us pw bhk bhs bhn bhp port opq bpn bpl hq q hf fg bare sp rst).short.pl)).1) ((bC sp sc (ae rst ↑(aF rst)) ((RS.mk sc us pw bhk bhs bhn bhp port opq bpn bpl hq q hf fg bare sp rst).short.pn,(RS.mk sc us pw bhk bhs bhn bhp port opq bpn bpl hq q hf fg bare sp rst).short.pl)).2) hq q hf fg bare sp (aa rst ↑(aF rst)),bE (0:Nat) bsc bus bpw bhk bhs bhn bhp bport bopq bpn bpl bhq bq bhf bfg])))))∧
 (false=!true→
 (false=true→
 upto (2:Int) (ak rst) (ak rst)∧
 False∧
 False)∧
 (false=false→
 az sp rst (0:Int)=false∧
 (false=true→
 False)∧
 (false=false→
 bsc=sc∧
 ((!true)=true→
 (List.length rst≤(300000:Nat)∧
 pl.length≤(100000:Nat))∧
 k (PV.int .i64 (0:Int)) [bT (PV.ptr (1:Nat) (0:Nat)) 1 sc us pw (1:Int) hs hn hp port opq ((bC sp sc (ae rst ↑(aF rst)) (pn,pl)).1) ((bC sp sc (ae rst ↑(aF rst)) (pn,pl)).2) hq q hf fg bare sp (aa rst ↑(aF rst)),bE (0:Nat) bsc bus bpw bhk bhs bhn bhp bport bopq bpn bpl bhq bq bhf bfg])∧
 ((!true)=false→
 bpl.length.le (1000000:Nat)∧
 bz rst=false∧
 (false=true→
 k (PV.int .i64 (0:Int)) [bT (PV.ptr (1:Nat) (0:Nat)) 1 sc us pw bhk bhs bhn bhp port opq bpn bpl hq q hf fg bare sp rst,bE (0:Nat) bsc bus bpw bhk bhs bhn bhp bport bopq bpn bpl bhq bq bhf bfg])∧
 (false=false→
 (List.length rst≤(300000:Nat)∧
 bpl.length≤(1000000:Nat)∧
 bw rst=false)∧
 (List.length rst≤(300000:Nat)∧
 (RS.mk sc us pw bhk bhs bhn bhp port opq bpn bpl hq q hf fg bare sp rst).short.pl.length≤(100000:Nat))∧
 k (PV.int .i64 (0:Int)) [bT (PV.ptr (1:Nat) (0:Nat)) 1 sc us pw bhk bhs bhn bhp port opq ((bC sp sc (ae rst ↑(aF rst)) ((RS.mk sc us pw bhk bhs bhn bhp port opq bpn bpl hq q hf fg bare sp rst).short.pn,(RS.mk sc us pw bhk bhs bhn bhp port opq bpn bpl hq q hf fg bare sp rst).short.pl)).1) ((bC sp sc (ae rst ↑(aF rst)) ((RS.mk sc us pw bhk bhs bhn bhp port opq bpn bpl hq q hf fg bare sp rst).short.pn,(RS.mk sc us pw bhk bhs bhn bhp port opq bpn bpl hq q hf fg bare sp rst).short.pl)).2) hq q hf fg bare sp (aa rst ↑(aF rst)),bE (0:Nat) bsc bus bpw bhk bhs bhn bhp bport bopq bpn bpl bhq bq bhf bfg])))))):=by kernel_rfl
attribute [local irreducible] Go.Vc.cB Go.Vc.bQ
theorem AZ(sc us pw:Bs)(hk:Int)(hs:Bs)(hn:Int)(hp:List Int)(port:Int)(opq pn:Bool)(pl:List Bs)(hq:Bool)(q:Bs)(hf:Bool)(fg:Bs)(bare sp:Bool)(rst:Bs)(bsc bus bpw:Bs)(bhk:Int)(bhs:Bs)(bhn:Int)(bhp:List Int)(bport:Int)(bopq bpn:Bool)(bpl:List Bs)(bhq:Bool)(bq:Bs)(bhf:Bool)(bfg:Bs):bt Tryz.prog aA 76 [.ptr 0 0] [aE 1 (.ptr 1 0) sc us pw hk hs hn hp port opq pn pl hq q hf fg bare sp rst,bE 0 bsc bus bpw bhk bhs bhn bhp bport bopq bpn bpl bhq bq bhf bfg] (rst.length≤300000∧bpl.length≤100000∧az sp rst 0=false∧bz rst=false∧bw rst=false∧bsc=sc) (.int .i64 0) [aE 1 (.ptr 1 0) sc us pw (((RS.mk sc us pw hk hs hn hp port opq pn pl hq q hf fg bare sp rst).b9 (RS.mk bsc bus bpw bhk bhs bhn bhp bport bopq bpn bpl bhq bq bhf bfg false false [])).hk) (((RS.mk sc us pw hk hs hn hp port opq pn pl hq q hf fg bare sp rst).b9 (RS.mk bsc bus bpw bhk bhs bhn bhp bport bopq bpn bpl bhq bq bhf bfg false false [])).hs) (((RS.mk sc us pw hk hs hn hp port opq pn pl hq q hf fg bare sp rst).b9 (RS.mk bsc bus bpw bhk bhs bhn bhp bport bopq bpn bpl bhq bq bhf bfg false false [])).hn) (((RS.mk sc us pw hk hs hn hp port opq pn pl hq q hf fg bare sp rst).b9 (RS.mk bsc bus bpw bhk bhs bhn bhp bport bopq bpn bpl bhq bq bhf bfg false false [])).hp) port opq (((RS.mk sc us pw hk hs hn hp port opq pn pl hq q hf fg bare sp rst).b9 (RS.mk bsc bus bpw bhk bhs bhn bhp bport bopq bpn bpl bhq bq bhf bfg false false [])).pn) (((RS.mk sc us pw hk hs hn hp port opq pn pl hq q hf fg bare sp rst).b9 (RS.mk bsc bus bpw bhk bhs bhn bhp bport bopq bpn bpl bhq bq bhf bfg false false [])).pl) hq q hf fg bare sp (((RS.mk sc us pw hk hs hn hp port opq pn pl hq q hf fg bare sp rst).b9 (RS.mk bsc bus bpw bhk bhs bhn bhp bport bopq bpn bpl bhq bq bhf bfg false false [])).rst),bE 0 bsc bus bpw bhk bhs bhn bhp bport bopq bpn bpl bhq bq bhf bfg]:=bG (by kernel_rfl) AY (H:=Cl sc us pw hk hs hn hp port opq pn pl hq q hf fg bare sp rst bsc bus bpw bhk bhs bhn bhp bport bopq bpn bpl bhq bq bhf bfg) (fuel:=1000) Tryz.func76 (by kernel_rfl) (Nat.le_of_ble_eq_true rfl) fun hpre=>(Hf sc us pw hk hs hn hp port opq pn pl hq q hf fg bare sp rst bsc bus bpw bhk bhs bhn bhp bport bopq bpn bpl bhq bq bhf bfg _).mpr (by
 obtain ⟨h1,h2,h3,h4,h5,h6⟩:=hpre
 have hz:(0:Int)≤0∧(0:Int)<1000:=⟨by decide,by decide⟩
 have hp:(b6 sc (bpn,bpl)).2.length≤100000:=by
  unfold b6
  split
  ·exact h2
  ·show(bpl.take _).length≤_
   rw [List.length_take];omega
 exact ⟨⟨hz,h3⟩,(fun h=>nomatch h),fun _=>⟨(fun h=>nomatch h),fun _=>⟨h3,(fun h=>nomatch h),fun _=>⟨h6,(fun h=>nomatch h),fun _=>⟨show bpl.length≤1000000 by omega,h4,(fun h=>nomatch h),fun _=>⟨⟨h1,by omega,h5⟩,⟨h1,hp⟩,rfl,rfl⟩⟩⟩⟩⟩⟩)
theorem Hg(sc us pw:Bs)(hk:Int)(hs:Bs)(hn:Int)(hp:List Int)(port:Int)(opq pn:Bool)(pl:List Bs)(hq:Bool)(q:Bs)(hf:Bool)(fg:Bs)(bare sp:Bool)(rst:Bs)(bsc bus bpw:Bs)(bhk:Int)(bhs:Bs)(bhn:Int)(bhp:List Int)(bport:Int)(bopq bpn:Bool)(bpl:List Bs)(bhq:Bool)(bq:Bs)(bhf:Bool)(bfg:Bs):ag Tryz.prog aA 76 [.ptr 0 0,aE 1 (.ptr 1 0) sc us pw hk hs hn hp port opq pn pl hq q hf fg bare sp rst,bE 0 bsc bus bpw bhk bhs bhn bhp bport bopq bpn bpl bhq bq bhf bfg] ⟨rst.length≤300000∧bpl.length≤100000∧az sp rst 0=false∧bz rst=false∧bw rst=false∧bsc=sc,.tup [.int .i64 0,aE 1 (.ptr 1 0) sc us pw (((RS.mk sc us pw hk hs hn hp port opq pn pl hq q hf fg bare sp rst).b9 (RS.mk bsc bus bpw bhk bhs bhn bhp bport bopq bpn bpl bhq bq bhf bfg false false [])).hk) (((RS.mk sc us pw hk hs hn hp port opq pn pl hq q hf fg bare sp rst).b9 (RS.mk bsc bus bpw bhk bhs bhn bhp bport bopq bpn bpl bhq bq bhf bfg false false [])).hs) (((RS.mk sc us pw hk hs hn hp port opq pn pl hq q hf fg bare sp rst).b9 (RS.mk bsc bus bpw bhk bhs bhn bhp bport bopq bpn bpl bhq bq bhf bfg false false [])).hn) (((RS.mk sc us pw hk hs hn hp port opq pn pl hq q hf fg bare sp rst).b9 (RS.mk bsc bus bpw bhk bhs bhn bhp bport bopq bpn bpl bhq bq bhf bfg false false [])).hp) port opq (((RS.mk sc us pw hk hs hn hp port opq pn pl hq q hf fg bare sp rst).b9 (RS.mk bsc bus bpw bhk bhs bhn bhp bport bopq bpn bpl bhq bq bhf bfg false false [])).pn) (((RS.mk sc us pw hk hs hn hp port opq pn pl hq q hf fg bare sp rst).b9 (RS.mk bsc bus bpw bhk bhs bhn bhp bport bopq bpn bpl bhq bq bhf bfg false false [])).pl) hq q hf fg bare sp (((RS.mk sc us pw hk hs hn hp port opq pn pl hq q hf fg bare sp rst).b9 (RS.mk bsc bus bpw bhk bhs bhn bhp bport bopq bpn bpl bhq bq bhf bfg false false [])).rst),bE 0 bsc bus bpw bhk bhs bhn bhp bport bopq bpn bpl bhq bq bhf bfg]⟩:=ag.bg (fun h=>by have e:List.isEmpty (PV.aB PV.bD [.ptr 0 0,aE 1 (.ptr 1 0) sc us pw hk hs hn hp port opq pn pl hq q hf fg bare sp rst,bE 0 bsc bus bpw bhk bhs bhn bhp bport bopq bpn bpl bhq bq bhf bfg])=false:=(by kernel_rfl);exact Bool.noConfusion (e.symm.trans (congrArg List.isEmpty h))) (AZ sc us pw hk hs hn hp port opq pn pl hq q hf fg bare sp rst bsc bus bpw bhk bhs bhn bhp bport bopq bpn bpl bhq bq bhf bfg)
def oq:List PV→Option aG:=fun xs=>match xs with
 |[.ptr 0 0,aE 1 (.ptr 1 0) sc us pw hk hs hn hp port opq pn pl hq q hf fg bare sp rst,bE 0 bsc bus bpw bhk bhs bhn bhp bport bopq bpn bpl bhq bq bhf bfg]=>some ⟨rst.length≤300000∧bpl.length≤100000∧az sp rst 0=false∧bz rst=false∧bw rst=false∧bsc=sc,.tup [.int .i64 0,aE 1 (.ptr 1 0) sc us pw (((RS.mk sc us pw hk hs hn hp port opq pn pl hq q hf fg bare sp rst).b9 (RS.mk bsc bus bpw bhk bhs bhn bhp bport bopq bpn bpl bhq bq bhf bfg false false [])).hk) (((RS.mk sc us pw hk hs hn hp port opq pn pl hq q hf fg bare sp rst).b9 (RS.mk bsc bus bpw bhk bhs bhn bhp bport bopq bpn bpl bhq bq bhf bfg false false [])).hs) (((RS.mk sc us pw hk hs hn hp port opq pn pl hq q hf fg bare sp rst).b9 (RS.mk bsc bus bpw bhk bhs bhn bhp bport bopq bpn bpl bhq bq bhf bfg false false [])).hn) (((RS.mk sc us pw hk hs hn hp port opq pn pl hq q hf fg bare sp rst).b9 (RS.mk bsc bus bpw bhk bhs bhn bhp bport bopq bpn bpl bhq bq bhf bfg false false [])).hp) port opq (((RS.mk sc us pw hk hs hn hp port opq pn pl hq q hf fg bare sp rst).b9 (RS.mk bsc bus bpw bhk bhs bhn bhp bport bopq bpn bpl bhq bq bhf bfg false false [])).pn) (((RS.mk sc us pw hk hs hn hp port opq pn pl hq q hf fg bare sp rst).b9 (RS.mk bsc bus bpw bhk bhs bhn bhp bport bopq bpn bpl bhq bq bhf bfg false false [])).pl) hq q hf fg bare sp (((RS.mk sc us pw hk hs hn hp port opq pn pl hq q hf fg bare sp rst).b9 (RS.mk bsc bus bpw bhk bhs bhn bhp bport bopq bpn bpl bhq bq bhf bfg false false [])).rst),bE 0 bsc bus bpw bhk bhs bhn bhp bport bopq bpn bpl bhq bq bhf bfg]⟩
 |_=>none
theorem vV:∀xs c,oq xs=some c→ag Tryz.prog aA 76 xs c:=fun xs c h=>by
 unfold oq at h
 split at h
 ·injection h with h;subst h;exact Hg _ _ _ _ _ _ _ _ _ _ _ _ _ _ _ _ _ _ _ _ _ _ _ _ _ _ _ _ _ _ _ _ _
 ·cases h
end
end Go.Proofs.YtmfapopclbnlpaaGreatDoor
