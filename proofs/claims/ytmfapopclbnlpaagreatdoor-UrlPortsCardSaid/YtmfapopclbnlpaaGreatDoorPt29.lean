import Derived.Test.YtmfapopclbnlpaaGreatDoorProg
import Derived.ProofKit
import Derived.Test.YtmfapopclbnlpaaGreatDoorPt6
import Derived.Test.YtmfapopclbnlpaaGreatDoorPt18
import Derived.Test.YtmfapopclbnlpaaGreatDoorPt20
import Derived.Test.YtmfapopclbnlpaaGreatDoorPt25
import Derived.Test.YtmfapopclbnlpaaGreatDoorPt26
import Derived.Test.YtmfapopclbnlpaaGreatDoorPt28
set_option linter.unusedVariables false
set_option linter.unusedSimpArgs false
set_option maxRecDepth 100000
set_option maxHeartbeats 4000000
namespace Go.Proofs.YtmfapopclbnlpaaGreatDoor
open Go Go.Proofs Go.RowKit Go.Vc
section
def oE:cr:=bP [(131,nP)]
def oF(sc us pw:Bs)(hk:Int)(hs:Bs)(hn:Int)(hp:List Int)(port:Int)(opq pn:Bool)(pl:List Bs)(hq:Bool)(q:Bs)(hf:Bool)(fg:Bs)(bare sp:Bool)(rst:Bs)(bsc bus bpw:Bs)(bhk:Int)(bhs:Bs)(bhn:Int)(bhp:List Int)(bport:Int)(bopq bpn:Bool)(bpl:List Bs)(bhq:Bool)(bq:Bs)(bhf:Bool)(bfg:Bs):aY:=fun i=>none
theorem rh:cS Tryz.prog ay oE:=ai vq (ax)
theorem vr(sc us pw:Bs)(hk:Int)(hs:Bs)(hn:Int)(hp:List Int)(port:Int)(opq pn:Bool)(pl:List Bs)(hq:Bool)(q:Bs)(hf:Bool)(fg:Bs)(bare sp:Bool)(rst:Bs)(bsc bus bpw:Bs)(bhk:Int)(bhs:Bs)(bhn:Int)(bhp:List Int)(bport:Int)(bopq bpn:Bool)(bpl:List Bs)(bhq:Bool)(bq:Bs)(bhf:Bool)(bfg:Bs)(k:PV→List PV→Prop):bL Tryz.prog oE ay (oF sc us pw hk hs hn hp port opq pn pl hq q hf fg bare sp rst bsc bus bpw bhk bhs bhn bhp bport bopq bpn bpl bhq bq bhf bfg) 1000 Tryz.f85 [.ptr 0 0] [aC 1 (.ptr 1 0) sc us pw hk hs hn hp port opq pn pl hq q hf fg bare sp rst,bD 0 bsc bus bpw bhk bhs bhn bhp bport bopq bpn bpl bhq bq bhf bfg] k=(
 bpl.length.le (1000000:Nat)∧
 k (PV.tup []) [bS (PV.ptr (1:Nat) (0:Nat)) 1 sc us pw hk hs hn hp port opq bpn bpl hq q hf fg bare sp rst,bD (0:Nat) bsc bus bpw bhk bhs bhn bhp bport bopq bpn bpl bhq bq bhf bfg]):=by kernel_rfl
attribute [local irreducible] Go.Vc.cD Go.Vc.bL
theorem ri(sc us pw:Bs)(hk:Int)(hs:Bs)(hn:Int)(hp:List Int)(port:Int)(opq pn:Bool)(pl:List Bs)(hq:Bool)(q:Bs)(hf:Bool)(fg:Bs)(bare sp:Bool)(rst:Bs)(bsc bus bpw:Bs)(bhk:Int)(bhs:Bs)(bhn:Int)(bhp:List Int)(bport:Int)(bopq bpn:Bool)(bpl:List Bs)(bhq:Bool)(bq:Bs)(bhf:Bool)(bfg:Bs):bm Tryz.prog ay 85 [.ptr 0 0] [aC 1 (.ptr 1 0) sc us pw hk hs hn hp port opq pn pl hq q hf fg bare sp rst,bD 0 bsc bus bpw bhk bhs bhn bhp bport bopq bpn bpl bhq bq bhf bfg] (bpl.length≤1000000) (.tup []) [aC 1 (.ptr 1 0) sc us pw hk hs hn hp port opq bpn bpl hq q hf fg bare sp rst,bD 0 bsc bus bpw bhk bhs bhn bhp bport bopq bpn bpl bhq bq bhf bfg]:=bz (by kernel_rfl) rh (H:=oF sc us pw hk hs hn hp port opq pn pl hq q hf fg bare sp rst bsc bus bpw bhk bhs bhn bhp bport bopq bpn bpl bhq bq bhf bfg) (fuel:=1000) Tryz.func85 (by kernel_rfl) (Nat.le_of_ble_eq_true rfl) fun hpre=>(vr sc us pw hk hs hn hp port opq pn pl hq q hf fg bare sp rst bsc bus bpw bhk bhs bhn bhp bport bopq bpn bpl bhq bq bhf bfg _).mpr (by
 exact ⟨hpre,rfl,rfl⟩)
theorem vt(sc us pw:Bs)(hk:Int)(hs:Bs)(hn:Int)(hp:List Int)(port:Int)(opq pn:Bool)(pl:List Bs)(hq:Bool)(q:Bs)(hf:Bool)(fg:Bs)(bare sp:Bool)(rst:Bs)(bsc bus bpw:Bs)(bhk:Int)(bhs:Bs)(bhn:Int)(bhp:List Int)(bport:Int)(bopq bpn:Bool)(bpl:List Bs)(bhq:Bool)(bq:Bs)(bhf:Bool)(bfg:Bs):ag Tryz.prog ay 85 [.ptr 0 0,aC 1 (.ptr 1 0) sc us pw hk hs hn hp port opq pn pl hq q hf fg bare sp rst,bD 0 bsc bus bpw bhk bhs bhn bhp bport bopq bpn bpl bhq bq bhf bfg] ⟨bpl.length≤1000000,.tup [.tup [],aC 1 (.ptr 1 0) sc us pw hk hs hn hp port opq bpn bpl hq q hf fg bare sp rst,bD 0 bsc bus bpw bhk bhs bhn bhp bport bopq bpn bpl bhq bq bhf bfg]⟩:=ag.aZ (fun h=>by have e:List.isEmpty (PV.aA PV.bw [.ptr 0 0,aC 1 (.ptr 1 0) sc us pw hk hs hn hp port opq pn pl hq q hf fg bare sp rst,bD 0 bsc bus bpw bhk bhs bhn bhp bport bopq bpn bpl bhq bq bhf bfg])=false:=(by kernel_rfl);exact Bool.noConfusion (e.symm.trans (congrArg List.isEmpty h))) (ri sc us pw hk hs hn hp port opq pn pl hq q hf fg bare sp rst bsc bus bpw bhk bhs bhn bhp bport bopq bpn bpl bhq bq bhf bfg)
def ic:List PV→Option aF:=fun xs=>match xs with
 |[.ptr 0 0,aC 1 (.ptr 1 0) sc us pw hk hs hn hp port opq pn pl hq q hf fg bare sp rst,bD 0 bsc bus bpw bhk bhs bhn bhp bport bopq bpn bpl bhq bq bhf bfg]=>some ⟨bpl.length≤1000000,.tup [.tup [],aC 1 (.ptr 1 0) sc us pw hk hs hn hp port opq bpn bpl hq q hf fg bare sp rst,bD 0 bsc bus bpw bhk bhs bhn bhp bport bopq bpn bpl bhq bq bhf bfg]⟩
 |_=>none
theorem nQ:∀xs c,ic xs=some c→ag Tryz.prog ay 85 xs c:=fun xs c h=>by
 unfold ic at h
 split at h
 ·injection h with h;subst h;exact vt _ _ _ _ _ _ _ _ _ _ _ _ _ _ _ _ _ _ _ _ _ _ _ _ _ _ _ _ _ _ _ _ _
 ·cases h
end
section
def BD:cr:=bP [(82,jX),(84,fT),(77,gU),(85,ic),(86,lp),(122,jZ),(90,nK)]
def BE(sc us pw:Bs)(hk:Int)(hs:Bs)(hn:Int)(hp:List Int)(port:Int)(opq pn:Bool)(pl:List Bs)(hq:Bool)(q:Bs)(hf:Bool)(fg:Bs)(bare sp:Bool)(rst:Bs)(bsc bus bpw:Bs)(bhk:Int)(bhs:Bs)(bhn:Int)(bhp:List Int)(bport:Int)(bopq bpn:Bool)(bpl:List Bs)(bhq:Bool)(bq:Bs)(bhf:Bool)(bfg:Bs):aY:=fun i=>none
theorem Ap:cS Tryz.prog ay BD:=ai qX (ai ln (ai jY (ai nQ (ai rV (ai re (ai vj (ax)))))))
theorem Gm(sc us pw:Bs)(hk:Int)(hs:Bs)(hn:Int)(hp:List Int)(port:Int)(opq pn:Bool)(pl:List Bs)(hq:Bool)(q:Bs)(hf:Bool)(fg:Bs)(bare sp:Bool)(rst:Bs)(bsc bus bpw:Bs)(bhk:Int)(bhs:Bs)(bhn:Int)(bhp:List Int)(bport:Int)(bopq bpn:Bool)(bpl:List Bs)(bhq:Bool)(bq:Bs)(bhf:Bool)(bfg:Bs)(k:PV→List PV→Prop):bL Tryz.prog BD ay (BE sc us pw hk hs hn hp port opq pn pl hq q hf fg bare sp rst bsc bus bpw bhk bhs bhn bhp bport bopq bpn bpl bhq bq bhf bfg) 1000 Tryz.f76 [.ptr 0 0] [aC 1 (.ptr 1 0) sc us pw hk hs hn hp port opq pn pl hq q hf fg bare sp rst,bD 0 bsc bus bpw bhk bhs bhn bhp bport bopq bpn bpl bhq bq bhf bfg] k=(
 (((0:Int)≤(0:Int)∧
 (0:Int)<(1000:Int))∧
 az sp rst (0:Int)=false)∧
 (false=true→
 (((0:Int)≤(1:Int)∧
 (1:Int)<(1000:Int))∧
 az sp rst (1:Int)=false)∧
 (false=true→
 upto (2:Int) (ak rst) (ak rst)∧
 False∧
 False)∧
 (false=false→
 az sp rst (0:Int)=false∧
 (false=true→
 False)∧
 (false=false→
 bsc=sc∧
 ((!true)=true→
 (List.length rst≤(300000:Nat)∧
 pl.length≤(100000:Nat))∧
 k (PV.int .i64 (0:Int)) [bS (PV.ptr (1:Nat) (0:Nat)) 1 sc us pw (1:Int) hs hn hp port opq ((bu sp sc (ae rst ↑(aE rst)) (pn,pl)).1) ((bu sp sc (ae rst ↑(aE rst)) (pn,pl)).2) hq q hf fg bare sp (aa rst ↑(aE rst)),bD (0:Nat) bsc bus bpw bhk bhs bhn bhp bport bopq bpn bpl bhq bq bhf bfg])∧
 ((!true)=false→
 bpl.length.le (1000000:Nat)∧
 bN rst=false∧
 (false=true→
 k (PV.int .i64 (0:Int)) [bS (PV.ptr (1:Nat) (0:Nat)) 1 sc us pw bhk bhs bhn bhp port opq bpn bpl hq q hf fg bare sp rst,bD (0:Nat) bsc bus bpw bhk bhs bhn bhp bport bopq bpn bpl bhq bq bhf bfg])∧
 (false=false→
 (List.length rst≤(300000:Nat)∧
 bpl.length≤(1000000:Nat)∧
 br rst=false)∧
 (List.length rst≤(300000:Nat)∧
 (RS.mk sc us pw bhk bhs bhn bhp port opq bpn bpl hq q hf fg bare sp rst).short.pl.length≤(100000:Nat))∧
 k (PV.int .i64 (0:Int)) [bS (PV.ptr (1:Nat) (0:Nat)) 1 sc us pw bhk bhs bhn bhp port opq ((bu sp sc (ae rst ↑(aE rst)) ((RS.mk sc us pw bhk bhs bhn bhp port opq bpn bpl hq q hf fg bare sp rst).short.pn,(RS.mk sc us pw bhk bhs bhn bhp port opq bpn bpl hq q hf fg bare sp rst).short.pl)).1) ((bu sp sc (ae rst ↑(aE rst)) ((RS.mk sc us pw bhk bhs bhn bhp port opq bpn bpl hq q hf fg bare sp rst).short.pn,(RS.mk sc us pw bhk bhs bhn bhp port opq bpn bpl hq q hf fg bare sp rst).short.pl)).2) hq q hf fg bare sp (aa rst ↑(aE rst)),bD (0:Nat) bsc bus bpw bhk bhs bhn bhp bport bopq bpn bpl bhq bq bhf bfg])))))∧
 (false=!true→
 (false=true→
 upto (2:Int) (ak rst) (ak rst)∧
 False∧
 False)∧
 (false=false→
 az sp rst (0:Int)=false∧
 (false=true→
 False)∧
 (false=false→
 bsc=sc∧
 ((!true)=true→
 (List.length rst≤(300000:Nat)∧
 pl.length≤(100000:Nat))∧
 k (PV.int .i64 (0:Int)) [bS (PV.ptr (1:Nat) (0:Nat)) 1 sc us pw (1:Int) hs hn hp port opq ((bu sp sc (ae rst ↑(aE rst)) (pn,pl)).1) ((bu sp sc (ae rst ↑(aE rst)) (pn,pl)).2) hq q hf fg bare sp (aa rst ↑(aE rst)),bD (0:Nat) bsc bus bpw bhk bhs bhn bhp bport bopq bpn bpl bhq bq bhf bfg])∧
 ((!true)=false→
 bpl.length.le (1000000:Nat)∧
 bN rst=false∧
 (false=true→
 k (PV.int .i64 (0:Int)) [bS (PV.ptr (1:Nat) (0:Nat)) 1 sc us pw bhk bhs bhn bhp port opq bpn bpl hq q hf fg bare sp rst,bD (0:Nat) bsc bus bpw bhk bhs bhn bhp bport bopq bpn bpl bhq bq bhf bfg])∧
 (false=false→
 (List.length rst≤(300000:Nat)∧
 bpl.length≤(1000000:Nat)∧
 br rst=false)∧
 (List.length rst≤(300000:Nat)∧
 (RS.mk sc us pw bhk bhs bhn bhp port opq bpn bpl hq q hf fg bare sp rst).short.pl.length≤(100000:Nat))∧
 k (PV.int .i64 (0:Int)) [bS (PV.ptr (1:Nat) (0:Nat)) 1 sc us pw bhk bhs bhn bhp port opq ((bu sp sc (ae rst ↑(aE rst)) ((RS.mk sc us pw bhk bhs bhn bhp port opq bpn bpl hq q hf fg bare sp rst).short.pn,(RS.mk sc us pw bhk bhs bhn bhp port opq bpn bpl hq q hf fg bare sp rst).short.pl)).1) ((bu sp sc (ae rst ↑(aE rst)) ((RS.mk sc us pw bhk bhs bhn bhp port opq bpn bpl hq q hf fg bare sp rst).short.pn,(RS.mk sc us pw bhk bhs bhn bhp port opq bpn bpl hq q hf fg bare sp rst).short.pl)).2) hq q hf fg bare sp (aa rst ↑(aE rst)),bD (0:Nat) bsc bus bpw bhk bhs bhn bhp bport bopq bpn bpl bhq bq bhf bfg])))))):=by kernel_rfl
attribute [local irreducible] Go.Vc.cD Go.Vc.bL
theorem Aq(sc us pw:Bs)(hk:Int)(hs:Bs)(hn:Int)(hp:List Int)(port:Int)(opq pn:Bool)(pl:List Bs)(hq:Bool)(q:Bs)(hf:Bool)(fg:Bs)(bare sp:Bool)(rst:Bs)(bsc bus bpw:Bs)(bhk:Int)(bhs:Bs)(bhn:Int)(bhp:List Int)(bport:Int)(bopq bpn:Bool)(bpl:List Bs)(bhq:Bool)(bq:Bs)(bhf:Bool)(bfg:Bs):bm Tryz.prog ay 76 [.ptr 0 0] [aC 1 (.ptr 1 0) sc us pw hk hs hn hp port opq pn pl hq q hf fg bare sp rst,bD 0 bsc bus bpw bhk bhs bhn bhp bport bopq bpn bpl bhq bq bhf bfg] (rst.length≤300000∧bpl.length≤100000∧az sp rst 0=false∧bN rst=false∧br rst=false∧bsc=sc) (.int .i64 0) [aC 1 (.ptr 1 0) sc us pw (((RS.mk sc us pw hk hs hn hp port opq pn pl hq q hf fg bare sp rst).cc (RS.mk bsc bus bpw bhk bhs bhn bhp bport bopq bpn bpl bhq bq bhf bfg false false [])).hk) (((RS.mk sc us pw hk hs hn hp port opq pn pl hq q hf fg bare sp rst).cc (RS.mk bsc bus bpw bhk bhs bhn bhp bport bopq bpn bpl bhq bq bhf bfg false false [])).hs) (((RS.mk sc us pw hk hs hn hp port opq pn pl hq q hf fg bare sp rst).cc (RS.mk bsc bus bpw bhk bhs bhn bhp bport bopq bpn bpl bhq bq bhf bfg false false [])).hn) (((RS.mk sc us pw hk hs hn hp port opq pn pl hq q hf fg bare sp rst).cc (RS.mk bsc bus bpw bhk bhs bhn bhp bport bopq bpn bpl bhq bq bhf bfg false false [])).hp) port opq (((RS.mk sc us pw hk hs hn hp port opq pn pl hq q hf fg bare sp rst).cc (RS.mk bsc bus bpw bhk bhs bhn bhp bport bopq bpn bpl bhq bq bhf bfg false false [])).pn) (((RS.mk sc us pw hk hs hn hp port opq pn pl hq q hf fg bare sp rst).cc (RS.mk bsc bus bpw bhk bhs bhn bhp bport bopq bpn bpl bhq bq bhf bfg false false [])).pl) hq q hf fg bare sp (((RS.mk sc us pw hk hs hn hp port opq pn pl hq q hf fg bare sp rst).cc (RS.mk bsc bus bpw bhk bhs bhn bhp bport bopq bpn bpl bhq bq bhf bfg false false [])).rst),bD 0 bsc bus bpw bhk bhs bhn bhp bport bopq bpn bpl bhq bq bhf bfg]:=bz (by kernel_rfl) Ap (H:=BE sc us pw hk hs hn hp port opq pn pl hq q hf fg bare sp rst bsc bus bpw bhk bhs bhn bhp bport bopq bpn bpl bhq bq bhf bfg) (fuel:=1000) Tryz.func76 (by kernel_rfl) (Nat.le_of_ble_eq_true rfl) fun hpre=>(Gm sc us pw hk hs hn hp port opq pn pl hq q hf fg bare sp rst bsc bus bpw bhk bhs bhn bhp bport bopq bpn bpl bhq bq bhf bfg _).mpr (by
 obtain ⟨h1,h2,h3,h4,h5,h6⟩:=hpre
 have hz:(0:Int)≤0∧(0:Int)<1000:=⟨by decide,by decide⟩
 have hp:(b5 sc (bpn,bpl)).2.length≤100000:=by
  unfold b5
  split
  ·exact h2
  ·show(bpl.take _).length≤_
   rw [List.length_take];omega
 exact ⟨⟨hz,h3⟩,(fun h=>nomatch h),fun _=>⟨(fun h=>nomatch h),fun _=>⟨h3,(fun h=>nomatch h),fun _=>⟨h6,(fun h=>nomatch h),fun _=>⟨show bpl.length≤1000000 by omega,h4,(fun h=>nomatch h),fun _=>⟨⟨h1,by omega,h5⟩,⟨h1,hp⟩,rfl,rfl⟩⟩⟩⟩⟩⟩)
theorem Gn(sc us pw:Bs)(hk:Int)(hs:Bs)(hn:Int)(hp:List Int)(port:Int)(opq pn:Bool)(pl:List Bs)(hq:Bool)(q:Bs)(hf:Bool)(fg:Bs)(bare sp:Bool)(rst:Bs)(bsc bus bpw:Bs)(bhk:Int)(bhs:Bs)(bhn:Int)(bhp:List Int)(bport:Int)(bopq bpn:Bool)(bpl:List Bs)(bhq:Bool)(bq:Bs)(bhf:Bool)(bfg:Bs):ag Tryz.prog ay 76 [.ptr 0 0,aC 1 (.ptr 1 0) sc us pw hk hs hn hp port opq pn pl hq q hf fg bare sp rst,bD 0 bsc bus bpw bhk bhs bhn bhp bport bopq bpn bpl bhq bq bhf bfg] ⟨rst.length≤300000∧bpl.length≤100000∧az sp rst 0=false∧bN rst=false∧br rst=false∧bsc=sc,.tup [.int .i64 0,aC 1 (.ptr 1 0) sc us pw (((RS.mk sc us pw hk hs hn hp port opq pn pl hq q hf fg bare sp rst).cc (RS.mk bsc bus bpw bhk bhs bhn bhp bport bopq bpn bpl bhq bq bhf bfg false false [])).hk) (((RS.mk sc us pw hk hs hn hp port opq pn pl hq q hf fg bare sp rst).cc (RS.mk bsc bus bpw bhk bhs bhn bhp bport bopq bpn bpl bhq bq bhf bfg false false [])).hs) (((RS.mk sc us pw hk hs hn hp port opq pn pl hq q hf fg bare sp rst).cc (RS.mk bsc bus bpw bhk bhs bhn bhp bport bopq bpn bpl bhq bq bhf bfg false false [])).hn) (((RS.mk sc us pw hk hs hn hp port opq pn pl hq q hf fg bare sp rst).cc (RS.mk bsc bus bpw bhk bhs bhn bhp bport bopq bpn bpl bhq bq bhf bfg false false [])).hp) port opq (((RS.mk sc us pw hk hs hn hp port opq pn pl hq q hf fg bare sp rst).cc (RS.mk bsc bus bpw bhk bhs bhn bhp bport bopq bpn bpl bhq bq bhf bfg false false [])).pn) (((RS.mk sc us pw hk hs hn hp port opq pn pl hq q hf fg bare sp rst).cc (RS.mk bsc bus bpw bhk bhs bhn bhp bport bopq bpn bpl bhq bq bhf bfg false false [])).pl) hq q hf fg bare sp (((RS.mk sc us pw hk hs hn hp port opq pn pl hq q hf fg bare sp rst).cc (RS.mk bsc bus bpw bhk bhs bhn bhp bport bopq bpn bpl bhq bq bhf bfg false false [])).rst),bD 0 bsc bus bpw bhk bhs bhn bhp bport bopq bpn bpl bhq bq bhf bfg]⟩:=ag.aZ (fun h=>by have e:List.isEmpty (PV.aA PV.bw [.ptr 0 0,aC 1 (.ptr 1 0) sc us pw hk hs hn hp port opq pn pl hq q hf fg bare sp rst,bD 0 bsc bus bpw bhk bhs bhn bhp bport bopq bpn bpl bhq bq bhf bfg])=false:=(by kernel_rfl);exact Bool.noConfusion (e.symm.trans (congrArg List.isEmpty h))) (Aq sc us pw hk hs hn hp port opq pn pl hq q hf fg bare sp rst bsc bus bpw bhk bhs bhn bhp bport bopq bpn bpl bhq bq bhf bfg)
def nR:List PV→Option aF:=fun xs=>match xs with
 |[.ptr 0 0,aC 1 (.ptr 1 0) sc us pw hk hs hn hp port opq pn pl hq q hf fg bare sp rst,bD 0 bsc bus bpw bhk bhs bhn bhp bport bopq bpn bpl bhq bq bhf bfg]=>some ⟨rst.length≤300000∧bpl.length≤100000∧az sp rst 0=false∧bN rst=false∧br rst=false∧bsc=sc,.tup [.int .i64 0,aC 1 (.ptr 1 0) sc us pw (((RS.mk sc us pw hk hs hn hp port opq pn pl hq q hf fg bare sp rst).cc (RS.mk bsc bus bpw bhk bhs bhn bhp bport bopq bpn bpl bhq bq bhf bfg false false [])).hk) (((RS.mk sc us pw hk hs hn hp port opq pn pl hq q hf fg bare sp rst).cc (RS.mk bsc bus bpw bhk bhs bhn bhp bport bopq bpn bpl bhq bq bhf bfg false false [])).hs) (((RS.mk sc us pw hk hs hn hp port opq pn pl hq q hf fg bare sp rst).cc (RS.mk bsc bus bpw bhk bhs bhn bhp bport bopq bpn bpl bhq bq bhf bfg false false [])).hn) (((RS.mk sc us pw hk hs hn hp port opq pn pl hq q hf fg bare sp rst).cc (RS.mk bsc bus bpw bhk bhs bhn bhp bport bopq bpn bpl bhq bq bhf bfg false false [])).hp) port opq (((RS.mk sc us pw hk hs hn hp port opq pn pl hq q hf fg bare sp rst).cc (RS.mk bsc bus bpw bhk bhs bhn bhp bport bopq bpn bpl bhq bq bhf bfg false false [])).pn) (((RS.mk sc us pw hk hs hn hp port opq pn pl hq q hf fg bare sp rst).cc (RS.mk bsc bus bpw bhk bhs bhn bhp bport bopq bpn bpl bhq bq bhf bfg false false [])).pl) hq q hf fg bare sp (((RS.mk sc us pw hk hs hn hp port opq pn pl hq q hf fg bare sp rst).cc (RS.mk bsc bus bpw bhk bhs bhn bhp bport bopq bpn bpl bhq bq bhf bfg false false [])).rst),bD 0 bsc bus bpw bhk bhs bhn bhp bport bopq bpn bpl bhq bq bhf bfg]⟩
 |_=>none
theorem vu:∀xs c,nR xs=some c→ag Tryz.prog ay 76 xs c:=fun xs c h=>by
 unfold nR at h
 split at h
 ·injection h with h;subst h;exact Gn _ _ _ _ _ _ _ _ _ _ _ _ _ _ _ _ _ _ _ _ _ _ _ _ _ _ _ _ _ _ _ _ _
 ·cases h
end
section
def yc:cr:=bP [(75,jV),(76,nR),(91,ll),(92,ib),(77,gU),(78,cX)]
def yd(sc us pw:Bs)(hk:Int)(hs:Bs)(hn:Int)(hp:List Int)(port:Int)(pn:Bool)(pl:List Bs)(hq:Bool)(q:Bs)(hf:Bool)(fg:Bs)(bare sp:Bool)(rst:Bs)(bsc bus bpw:Bs)(bhk:Int)(bhs:Bs)(bhn:Int)(bhp:List Int)(bport:Int)(bopq bpn:Bool)(bpl:List Bs)(bhq:Bool)(bq:Bs)(bhf:Bool)(bfg:Bs):aY:=fun i=>none
theorem ye:cS Tryz.prog ay yc:=ai qV (ai vu (ai rS (ai nL (ai jY (ai cH (ax))))))
theorem DF(sc us pw:Bs)(hk:Int)(hs:Bs)(hn:Int)(hp:List Int)(port:Int)(pn:Bool)(pl:List Bs)(hq:Bool)(q:Bs)(hf:Bool)(fg:Bs)(bare sp:Bool)(rst:Bs)(bsc bus bpw:Bs)(bhk:Int)(bhs:Bs)(bhn:Int)(bhp:List Int)(bport:Int)(bopq bpn:Bool)(bpl:List Bs)(bhq:Bool)(bq:Bs)(bhf:Bool)(bfg:Bs)(k:PV→List PV→Prop):bL Tryz.prog yc ay (yd sc us pw hk hs hn hp port pn pl hq q hf fg bare sp rst bsc bus bpw bhk bhs bhn bhp bport bopq bpn bpl bhq bq bhf bfg) 1000 Tryz.f47 [.ptr 0 0] [aC 1 (.ptr 1 0) sc us pw hk hs hn hp port false pn pl hq q hf fg bare sp rst,bD 0 bsc bus bpw bhk bhs bhn bhp bport bopq bpn bpl bhq bq bhf bfg] k=(
 (List.length rst≤(300000:Nat)∧
 (ab rst rst (0:Nat)).2.2=false∧
 bopq=false)∧
 ((!decide ((0:Int)=(0:Int)))=true→
 k (PV.int .i64 (0:Int)) [bS (PV.ptr (1:Nat) (0:Nat)) 1 bsc us pw hk hs hn hp port false pn pl hq q hf fg true (aw bsc) rst,bD (0:Nat) bsc bus bpw bhk bhs bhn bhp bport bopq bpn bpl bhq bq bhf bfg])∧
 ((!decide ((0:Int)=(0:Int)))=false→
 (false=true→
 (List.length rst).le (300000:Nat)∧
 (List.length (bH rst)).le (300000:Nat)∧
 k (PV.int .i64 (0:Int)) [bS (PV.ptr (1:Nat) (0:Nat)) 1 bsc us pw hk hs hn hp port false pn pl (dU rst hq) (dV (aw bsc) rst q) (dW (bH rst) hf) (dX (bH rst) fg) true (aw bsc) (dY (bH rst)),bD (0:Nat) bsc bus bpw bhk bhs bhn bhp bport bopq bpn bpl bhq bq bhf bfg])∧
 (false=false→
 (decide (bsc=(ByteArray.mk #[102,105,108,101]).data.toList)=true→
 (List.length rst≤(300000:Nat)∧
 bpl.length≤(100000:Nat)∧
 az (aw bsc) rst (0:Int)=false∧
 bN rst=false∧
 br rst=false∧
 bsc=bsc)∧
 ((!decide ((0:Int)=(0:Int)))=true→
 k (PV.int .i64 (0:Int)) [bS (PV.ptr (1:Nat) (0:Nat)) 1 bsc us pw (((RS.mk bsc us pw hk hs hn hp port false pn pl hq q hf fg true (aw bsc) rst).cc (RS.mk bsc bus bpw bhk bhs bhn bhp bport bopq bpn bpl bhq bq bhf bfg false false [])).hk) (((RS.mk bsc us pw hk hs hn hp port false pn pl hq q hf fg true (aw bsc) rst).cc (RS.mk bsc bus bpw bhk bhs bhn bhp bport bopq bpn bpl bhq bq bhf bfg false false [])).hs) (((RS.mk bsc us pw hk hs hn hp port false pn pl hq q hf fg true (aw bsc) rst).cc (RS.mk bsc bus bpw bhk bhs bhn bhp bport bopq bpn bpl bhq bq bhf bfg false false [])).hn) (((RS.mk bsc us pw hk hs hn hp port false pn pl hq q hf fg true (aw bsc) rst).cc (RS.mk bsc bus bpw bhk bhs bhn bhp bport bopq bpn bpl bhq bq bhf bfg false false [])).hp) port false (((RS.mk bsc us pw hk hs hn hp port false pn pl hq q hf fg true (aw bsc) rst).cc (RS.mk bsc bus bpw bhk bhs bhn bhp bport bopq bpn bpl bhq bq bhf bfg false false [])).pn) (((RS.mk bsc us pw hk hs hn hp port false pn pl hq q hf fg true (aw bsc) rst).cc (RS.mk bsc bus bpw bhk bhs bhn bhp bport bopq bpn bpl bhq bq bhf bfg false false [])).pl) hq q hf fg true (aw bsc) (((RS.mk bsc us pw hk hs hn hp port false pn pl hq q hf fg true (aw bsc) rst).cc (RS.mk bsc bus bpw bhk bhs bhn bhp bport bopq bpn bpl bhq bq bhf bfg false false [])).rst),bD (0:Nat) bsc bus bpw bhk bhs bhn bhp bport bopq bpn bpl bhq bq bhf bfg])∧
 ((!decide ((0:Int)=(0:Int)))=false→
 (List.length ((RS.mk bsc us pw hk hs hn hp port false pn pl hq q hf fg true (aw bsc) rst).cc (RS.mk bsc bus bpw bhk bhs bhn bhp bport bopq bpn bpl bhq bq bhf bfg false false [])).rst).le (300000:Nat)∧
 (List.length (bH ((RS.mk bsc us pw hk hs hn hp port false pn pl hq q hf fg true (aw bsc) rst).cc (RS.mk bsc bus bpw bhk bhs bhn bhp bport bopq bpn bpl bhq bq bhf bfg false false [])).rst)).le (300000:Nat)∧
 k (PV.int .i64 (0:Int)) [bS (PV.ptr (1:Nat) (0:Nat)) 1 bsc us pw (((RS.mk bsc us pw hk hs hn hp port false pn pl hq q hf fg true (aw bsc) rst).cc (RS.mk bsc bus bpw bhk bhs bhn bhp bport bopq bpn bpl bhq bq bhf bfg false false [])).hk) (((RS.mk bsc us pw hk hs hn hp port false pn pl hq q hf fg true (aw bsc) rst).cc (RS.mk bsc bus bpw bhk bhs bhn bhp bport bopq bpn bpl bhq bq bhf bfg false false [])).hs) (((RS.mk bsc us pw hk hs hn hp port false pn pl hq q hf fg true (aw bsc) rst).cc (RS.mk bsc bus bpw bhk bhs bhn bhp bport bopq bpn bpl bhq bq bhf bfg false false [])).hn) (((RS.mk bsc us pw hk hs hn hp port false pn pl hq q hf fg true (aw bsc) rst).cc (RS.mk bsc bus bpw bhk bhs bhn bhp bport bopq bpn bpl bhq bq bhf bfg false false [])).hp) port false (((RS.mk bsc us pw hk hs hn hp port false pn pl hq q hf fg true (aw bsc) rst).cc (RS.mk bsc bus bpw bhk bhs bhn bhp bport bopq bpn bpl bhq bq bhf bfg false false [])).pn) (((RS.mk bsc us pw hk hs hn hp port false pn pl hq q hf fg true (aw bsc) rst).cc (RS.mk bsc bus bpw bhk bhs bhn bhp bport bopq bpn bpl bhq bq bhf bfg false false [])).pl) (dU ((RS.mk bsc us pw hk hs hn hp port false pn pl hq q hf fg true (aw bsc) rst).cc (RS.mk bsc bus bpw bhk bhs bhn bhp bport bopq bpn bpl bhq bq bhf bfg false false [])).rst hq) (dV (aw bsc) ((RS.mk bsc us pw hk hs hn hp port false pn pl hq q hf fg true (aw bsc) rst).cc (RS.mk bsc bus bpw bhk bhs bhn bhp bport bopq bpn bpl bhq bq bhf bfg false false [])).rst q) (dW (bH ((RS.mk bsc us pw hk hs hn hp port false pn pl hq q hf fg true (aw bsc) rst).cc (RS.mk bsc bus bpw bhk bhs bhn bhp bport bopq bpn bpl bhq bq bhf bfg false false [])).rst) hf) (dX (bH ((RS.mk bsc us pw hk hs hn hp port false pn pl hq q hf fg true (aw bsc) rst).cc (RS.mk bsc bus bpw bhk bhs bhn bhp bport bopq bpn bpl bhq bq bhf bfg false false [])).rst) fg) true (aw bsc) (dY (bH ((RS.mk bsc us pw hk hs hn hp port false pn pl hq q hf fg true (aw bsc) rst).cc (RS.mk bsc bus bpw bhk bhs bhn bhp bport bopq bpn bpl bhq bq bhf bfg false false [])).rst)),bD (0:Nat) bsc bus bpw bhk bhs bhn bhp bport bopq bpn bpl bhq bq bhf bfg]))∧
 (decide (bsc=(ByteArray.mk #[102,105,108,101]).data.toList)=false→
 (true=false→
 (aw bsc=true→
 bsc=bsc∧
 (false=false→
 true=true→
 True)∧
 ((!preB rst (ByteArray.mk #[47,47]).data.toList)=true→
 False)∧
 ((!preB rst (ByteArray.mk #[47,47]).data.toList)=false→
 (aw bsc=true→
 False)∧
 (aw bsc=false→
 False)))∧
 (aw bsc=!true→
 (false=false→
 false=true→
 True)∧
 (false=true→
 False)∧
 (false=false→
 (aw bsc=true→
 False)∧
 (aw bsc=false→
 False))))∧
 (true=!false→
 ((!false)=false→
 false=true→
 True)∧
 (true=true→
 False)∧
 (true=false→
 (aw bsc=true→
 False)∧
 (aw bsc=false→
 False))))))):=by kernel_rfl
attribute [local irreducible] Go.Vc.cD Go.Vc.bL
theorem yf(sc us pw:Bs)(hk:Int)(hs:Bs)(hn:Int)(hp:List Int)(port:Int)(pn:Bool)(pl:List Bs)(hq:Bool)(q:Bs)(hf:Bool)(fg:Bs)(bare sp:Bool)(rst:Bs)(bsc bus bpw:Bs)(bhk:Int)(bhs:Bs)(bhn:Int)(bhp:List Int)(bport:Int)(bopq bpn:Bool)(bpl:List Bs)(bhq:Bool)(bq:Bs)(bhf:Bool)(bfg:Bs):bm Tryz.prog ay 47 [.ptr 0 0] [aC 1 (.ptr 1 0) sc us pw hk hs hn hp port false pn pl hq q hf fg bare sp rst,bD 0 bsc bus bpw bhk bhs bhn bhp bport bopq bpn bpl bhq bq bhf bfg] (rst.length≤300000∧bpl.length≤100000∧(ab rst rst 0).2.2=false∧bopq=false∧bsc=fL∧az (aw bsc) rst 0=false∧bN rst=false∧br rst=false) (.int .i64 0) [aC 0 (.ptr 1 0) (((RS.mk sc us pw hk hs hn hp port false pn pl hq q hf fg bare sp rst).au (RS.mk bsc bus bpw bhk bhs bhn bhp bport bopq bpn bpl bhq bq bhf bfg false false [])).sc) (((RS.mk sc us pw hk hs hn hp port false pn pl hq q hf fg bare sp rst).au (RS.mk bsc bus bpw bhk bhs bhn bhp bport bopq bpn bpl bhq bq bhf bfg false false [])).us) (((RS.mk sc us pw hk hs hn hp port false pn pl hq q hf fg bare sp rst).au (RS.mk bsc bus bpw bhk bhs bhn bhp bport bopq bpn bpl bhq bq bhf bfg false false [])).pw) (((RS.mk sc us pw hk hs hn hp port false pn pl hq q hf fg bare sp rst).au (RS.mk bsc bus bpw bhk bhs bhn bhp bport bopq bpn bpl bhq bq bhf bfg false false [])).hk) (((RS.mk sc us pw hk hs hn hp port false pn pl hq q hf fg bare sp rst).au (RS.mk bsc bus bpw bhk bhs bhn bhp bport bopq bpn bpl bhq bq bhf bfg false false [])).hs) (((RS.mk sc us pw hk hs hn hp port false pn pl hq q hf fg bare sp rst).au (RS.mk bsc bus bpw bhk bhs bhn bhp bport bopq bpn bpl bhq bq bhf bfg false false [])).hn) (((RS.mk sc us pw hk hs hn hp port false pn pl hq q hf fg bare sp rst).au (RS.mk bsc bus bpw bhk bhs bhn bhp bport bopq bpn bpl bhq bq bhf bfg false false [])).hp) (((RS.mk sc us pw hk hs hn hp port false pn pl hq q hf fg bare sp rst).au (RS.mk bsc bus bpw bhk bhs bhn bhp bport bopq bpn bpl bhq bq bhf bfg false false [])).port) (((RS.mk sc us pw hk hs hn hp port false pn pl hq q hf fg bare sp rst).au (RS.mk bsc bus bpw bhk bhs bhn bhp bport bopq bpn bpl bhq bq bhf bfg false false [])).opq) (((RS.mk sc us pw hk hs hn hp port false pn pl hq q hf fg bare sp rst).au (RS.mk bsc bus bpw bhk bhs bhn bhp bport bopq bpn bpl bhq bq bhf bfg false false [])).pn) (((RS.mk sc us pw hk hs hn hp port false pn pl hq q hf fg bare sp rst).au (RS.mk bsc bus bpw bhk bhs bhn bhp bport bopq bpn bpl bhq bq bhf bfg false false [])).pl) (((RS.mk sc us pw hk hs hn hp port false pn pl hq q hf fg bare sp rst).au (RS.mk bsc bus bpw bhk bhs bhn bhp bport bopq bpn bpl bhq bq bhf bfg false false [])).hq) (((RS.mk sc us pw hk hs hn hp port false pn pl hq q hf fg bare sp rst).au (RS.mk bsc bus bpw bhk bhs bhn bhp bport bopq bpn bpl bhq bq bhf bfg false false [])).q) (((RS.mk sc us pw hk hs hn hp port false pn pl hq q hf fg bare sp rst).au (RS.mk bsc bus bpw bhk bhs bhn bhp bport bopq bpn bpl bhq bq bhf bfg false false [])).hf) (((RS.mk sc us pw hk hs hn hp port false pn pl hq q hf fg bare sp rst).au (RS.mk bsc bus bpw bhk bhs bhn bhp bport bopq bpn bpl bhq bq bhf bfg false false [])).fg) (((RS.mk sc us pw hk hs hn hp port false pn pl hq q hf fg bare sp rst).au (RS.mk bsc bus bpw bhk bhs bhn bhp bport bopq bpn bpl bhq bq bhf bfg false false [])).bare) (((RS.mk sc us pw hk hs hn hp port false pn pl hq q hf fg bare sp rst).au (RS.mk bsc bus bpw bhk bhs bhn bhp bport bopq bpn bpl bhq bq bhf bfg false false [])).sp) (((RS.mk sc us pw hk hs hn hp port false pn pl hq q hf fg bare sp rst).au (RS.mk bsc bus bpw bhk bhs bhn bhp bport bopq bpn bpl bhq bq bhf bfg false false [])).rst),bD 0 bsc bus bpw bhk bhs bhn bhp bport bopq bpn bpl bhq bq bhf bfg]:=ui (by kernel_rfl) ye (H:=yd sc us pw hk hs hn hp port pn pl hq q hf fg bare sp rst bsc bus bpw bhk bhs bhn bhp bport bopq bpn bpl bhq bq bhf bfg) (fuel:=1000) Tryz.func47 (by kernel_rfl) (Nat.le_of_ble_eq_true rfl) fun hpre=>(DF sc us pw hk hs hn hp port pn pl hq q hf fg bare sp rst bsc bus bpw bhk bhs bhn bhp bport bopq bpn bpl bhq bq bhf bfg _).mpr (by
 obtain ⟨h1,h2,h3,h4,h5,h6,h7,h8⟩:=hpre
 have hb:decide (bsc=(ByteArray.mk #[102,105,108,101]).data.toList)=true:=decide_eq_true h5
 have hr:((RS.mk bsc us pw hk hs hn hp port false pn pl hq q hf fg true (aw bsc) rst).cc (RS.mk bsc bus bpw bhk bhs bhn bhp bport bopq bpn bpl bhq bq bhf bfg false false [])).rst.length≤300000:=by
  show(aa rst _).length≤_
  unfold aa
  rw [List.length_drop];omega
 have e:(RS.mk sc us pw hk hs hn hp port false pn pl hq q hf fg bare sp rst).au (RS.mk bsc bus bpw bhk bhs bhn bhp bport bopq bpn bpl bhq bq bhf bfg false false [])=_:=gV _
 rw [e]
 exact ⟨⟨h1,h3,h4⟩,(fun h=>absurd h (by decide)),fun _=>⟨(fun h=>nomatch h),fun _=>⟨fun _=>⟨⟨h1,h2,h6,h7,h8,rfl⟩,(fun h=>absurd h (by decide)),fun _=>⟨hr,Nat.le_trans (iM _) hr,rfl,rfl⟩⟩,fun h=>absurd (h.symm.trans hb) nofun⟩⟩⟩)
end
section
attribute [local instance] Kj
theorem vv(sc us pw:Bs)(hk:Int)(hs:Bs)(hn:Int)(hp:List Int)(port:Int)(hq:Bool)(q:Bs)(hf:Bool)(fg:Bs)(bare sp:Bool)(rst:Bs)(bsc bus bpw:Bs)(bhk:Int)(bhs:Bs)(bhn:Int)(bhp:List Int)(bport:Int)(bopq bpn:Bool)(bpl:List Bs)(bhq:Bool)(bq:Bs)(bhf:Bool)(bfg:Bs):bm Tryz.prog ay 47 [.ptr 0 0] [aC 0 (.ptr 1 0) sc us pw hk hs hn hp port false true [] hq q hf fg bare sp rst,bD 0 bsc bus bpw bhk bhs bhn bhp bport bopq bpn bpl bhq bq bhf bfg] (rst.length≤300000∧bpl.length≤100000∧(ab rst rst 0).2.2=false∧bopq=false∧bsc=fL∧az (aw bsc) rst 0=false∧bN rst=false∧br rst=false) (.int .i64 0) [aC 0 (.ptr 1 0) (((RS.mk sc us pw hk hs hn hp port false true ([]:List Bs) hq q hf fg bare sp rst).au (RS.mk bsc bus bpw bhk bhs bhn bhp bport bopq bpn bpl bhq bq bhf bfg false false [])).sc) (((RS.mk sc us pw hk hs hn hp port false true ([]:List Bs) hq q hf fg bare sp rst).au (RS.mk bsc bus bpw bhk bhs bhn bhp bport bopq bpn bpl bhq bq bhf bfg false false [])).us) (((RS.mk sc us pw hk hs hn hp port false true ([]:List Bs) hq q hf fg bare sp rst).au (RS.mk bsc bus bpw bhk bhs bhn bhp bport bopq bpn bpl bhq bq bhf bfg false false [])).pw) (((RS.mk sc us pw hk hs hn hp port false true ([]:List Bs) hq q hf fg bare sp rst).au (RS.mk bsc bus bpw bhk bhs bhn bhp bport bopq bpn bpl bhq bq bhf bfg false false [])).hk) (((RS.mk sc us pw hk hs hn hp port false true ([]:List Bs) hq q hf fg bare sp rst).au (RS.mk bsc bus bpw bhk bhs bhn bhp bport bopq bpn bpl bhq bq bhf bfg false false [])).hs) (((RS.mk sc us pw hk hs hn hp port false true ([]:List Bs) hq q hf fg bare sp rst).au (RS.mk bsc bus bpw bhk bhs bhn bhp bport bopq bpn bpl bhq bq bhf bfg false false [])).hn) (((RS.mk sc us pw hk hs hn hp port false true ([]:List Bs) hq q hf fg bare sp rst).au (RS.mk bsc bus bpw bhk bhs bhn bhp bport bopq bpn bpl bhq bq bhf bfg false false [])).hp) (((RS.mk sc us pw hk hs hn hp port false true ([]:List Bs) hq q hf fg bare sp rst).au (RS.mk bsc bus bpw bhk bhs bhn bhp bport bopq bpn bpl bhq bq bhf bfg false false [])).port) (((RS.mk sc us pw hk hs hn hp port false true ([]:List Bs) hq q hf fg bare sp rst).au (RS.mk bsc bus bpw bhk bhs bhn bhp bport bopq bpn bpl bhq bq bhf bfg false false [])).opq) (((RS.mk sc us pw hk hs hn hp port false true ([]:List Bs) hq q hf fg bare sp rst).au (RS.mk bsc bus bpw bhk bhs bhn bhp bport bopq bpn bpl bhq bq bhf bfg false false [])).pn) (((RS.mk sc us pw hk hs hn hp port false true ([]:List Bs) hq q hf fg bare sp rst).au (RS.mk bsc bus bpw bhk bhs bhn bhp bport bopq bpn bpl bhq bq bhf bfg false false [])).pl) (((RS.mk sc us pw hk hs hn hp port false true ([]:List Bs) hq q hf fg bare sp rst).au (RS.mk bsc bus bpw bhk bhs bhn bhp bport bopq bpn bpl bhq bq bhf bfg false false [])).hq) (((RS.mk sc us pw hk hs hn hp port false true ([]:List Bs) hq q hf fg bare sp rst).au (RS.mk bsc bus bpw bhk bhs bhn bhp bport bopq bpn bpl bhq bq bhf bfg false false [])).q) (((RS.mk sc us pw hk hs hn hp port false true ([]:List Bs) hq q hf fg bare sp rst).au (RS.mk bsc bus bpw bhk bhs bhn bhp bport bopq bpn bpl bhq bq bhf bfg false false [])).hf) (((RS.mk sc us pw hk hs hn hp port false true ([]:List Bs) hq q hf fg bare sp rst).au (RS.mk bsc bus bpw bhk bhs bhn bhp bport bopq bpn bpl bhq bq bhf bfg false false [])).fg) (((RS.mk sc us pw hk hs hn hp port false true ([]:List Bs) hq q hf fg bare sp rst).au (RS.mk bsc bus bpw bhk bhs bhn bhp bport bopq bpn bpl bhq bq bhf bfg false false [])).bare) (((RS.mk sc us pw hk hs hn hp port false true ([]:List Bs) hq q hf fg bare sp rst).au (RS.mk bsc bus bpw bhk bhs bhn bhp bport bopq bpn bpl bhq bq bhf bfg false false [])).sp) (((RS.mk sc us pw hk hs hn hp port false true ([]:List Bs) hq q hf fg bare sp rst).au (RS.mk bsc bus bpw bhk bhs bhn bhp bport bopq bpn bpl bhq bq bhf bfg false false [])).rst),bD 0 bsc bus bpw bhk bhs bhn bhp bport bopq bpn bpl bhq bq bhf bfg]:=fun hpre F w vs bs τ hF hT hw hb hτ hl hx=>
 yf sc us pw hk hs hn hp port true [] hq q hf fg bare sp rst bsc bus bpw bhk bhs bhn bhp bport bopq bpn bpl bhq bq bhf bfg hpre F w vs bs τ hF hT hw hb hτ ⟨hl.len,hl.nd,hl.bF,hl.mks,hl.inj,fun i x hx=>by
  match i,hx with
  |0,hx=>
   injection hx with hx
   subst hx
   obtain ⟨b,h1,u,e,fz,g1,g2,g3,g4,g5⟩:=hl.box 0 _ rfl
   exact ⟨b,h1,u,e,fz,g1,g2,aQ.map (f:=Dx) (fun y v _ hy=>x3 hy) (fun y _=>x4 y) g3,g4,g5⟩
  |1,hx=>exact hl.box 1 x hx
  |i+2,hx=>cases hx⟩ hx
theorem Ar(sc us pw:Bs)(hk:Int)(hs:Bs)(hn:Int)(hp:List Int)(port:Int)(hq:Bool)(q:Bs)(hf:Bool)(fg:Bs)(bare sp:Bool)(rst:Bs)(bsc bus bpw:Bs)(bhk:Int)(bhs:Bs)(bhn:Int)(bhp:List Int)(bport:Int)(bopq bpn:Bool)(bpl:List Bs)(bhq:Bool)(bq:Bs)(bhf:Bool)(bfg:Bs):ag Tryz.prog ay 47 [.ptr 0 0,aC 0 (.ptr 1 0) sc us pw hk hs hn hp port false true [] hq q hf fg bare sp rst,bD 0 bsc bus bpw bhk bhs bhn bhp bport bopq bpn bpl bhq bq bhf bfg] ⟨rst.length≤300000∧bpl.length≤100000∧(ab rst rst 0).2.2=false∧bopq=false∧bsc=fL∧az (aw bsc) rst 0=false∧bN rst=false∧br rst=false,.tup [.int .i64 0,aC 0 (.ptr 1 0) (((RS.mk sc us pw hk hs hn hp port false true ([]:List Bs) hq q hf fg bare sp rst).au (RS.mk bsc bus bpw bhk bhs bhn bhp bport bopq bpn bpl bhq bq bhf bfg false false [])).sc) (((RS.mk sc us pw hk hs hn hp port false true ([]:List Bs) hq q hf fg bare sp rst).au (RS.mk bsc bus bpw bhk bhs bhn bhp bport bopq bpn bpl bhq bq bhf bfg false false [])).us) (((RS.mk sc us pw hk hs hn hp port false true ([]:List Bs) hq q hf fg bare sp rst).au (RS.mk bsc bus bpw bhk bhs bhn bhp bport bopq bpn bpl bhq bq bhf bfg false false [])).pw) (((RS.mk sc us pw hk hs hn hp port false true ([]:List Bs) hq q hf fg bare sp rst).au (RS.mk bsc bus bpw bhk bhs bhn bhp bport bopq bpn bpl bhq bq bhf bfg false false [])).hk) (((RS.mk sc us pw hk hs hn hp port false true ([]:List Bs) hq q hf fg bare sp rst).au (RS.mk bsc bus bpw bhk bhs bhn bhp bport bopq bpn bpl bhq bq bhf bfg false false [])).hs) (((RS.mk sc us pw hk hs hn hp port false true ([]:List Bs) hq q hf fg bare sp rst).au (RS.mk bsc bus bpw bhk bhs bhn bhp bport bopq bpn bpl bhq bq bhf bfg false false [])).hn) (((RS.mk sc us pw hk hs hn hp port false true ([]:List Bs) hq q hf fg bare sp rst).au (RS.mk bsc bus bpw bhk bhs bhn bhp bport bopq bpn bpl bhq bq bhf bfg false false [])).hp) (((RS.mk sc us pw hk hs hn hp port false true ([]:List Bs) hq q hf fg bare sp rst).au (RS.mk bsc bus bpw bhk bhs bhn bhp bport bopq bpn bpl bhq bq bhf bfg false false [])).port) (((RS.mk sc us pw hk hs hn hp port false true ([]:List Bs) hq q hf fg bare sp rst).au (RS.mk bsc bus bpw bhk bhs bhn bhp bport bopq bpn bpl bhq bq bhf bfg false false [])).opq) (((RS.mk sc us pw hk hs hn hp port false true ([]:List Bs) hq q hf fg bare sp rst).au (RS.mk bsc bus bpw bhk bhs bhn bhp bport bopq bpn bpl bhq bq bhf bfg false false [])).pn) (((RS.mk sc us pw hk hs hn hp port false true ([]:List Bs) hq q hf fg bare sp rst).au (RS.mk bsc bus bpw bhk bhs bhn bhp bport bopq bpn bpl bhq bq bhf bfg false false [])).pl) (((RS.mk sc us pw hk hs hn hp port false true ([]:List Bs) hq q hf fg bare sp rst).au (RS.mk bsc bus bpw bhk bhs bhn bhp bport bopq bpn bpl bhq bq bhf bfg false false [])).hq) (((RS.mk sc us pw hk hs hn hp port false true ([]:List Bs) hq q hf fg bare sp rst).au (RS.mk bsc bus bpw bhk bhs bhn bhp bport bopq bpn bpl bhq bq bhf bfg false false [])).q) (((RS.mk sc us pw hk hs hn hp port false true ([]:List Bs) hq q hf fg bare sp rst).au (RS.mk bsc bus bpw bhk bhs bhn bhp bport bopq bpn bpl bhq bq bhf bfg false false [])).hf) (((RS.mk sc us pw hk hs hn hp port false true ([]:List Bs) hq q hf fg bare sp rst).au (RS.mk bsc bus bpw bhk bhs bhn bhp bport bopq bpn bpl bhq bq bhf bfg false false [])).fg) (((RS.mk sc us pw hk hs hn hp port false true ([]:List Bs) hq q hf fg bare sp rst).au (RS.mk bsc bus bpw bhk bhs bhn bhp bport bopq bpn bpl bhq bq bhf bfg false false [])).bare) (((RS.mk sc us pw hk hs hn hp port false true ([]:List Bs) hq q hf fg bare sp rst).au (RS.mk bsc bus bpw bhk bhs bhn bhp bport bopq bpn bpl bhq bq bhf bfg false false [])).sp) (((RS.mk sc us pw hk hs hn hp port false true ([]:List Bs) hq q hf fg bare sp rst).au (RS.mk bsc bus bpw bhk bhs bhn bhp bport bopq bpn bpl bhq bq bhf bfg false false [])).rst),bD 0 bsc bus bpw bhk bhs bhn bhp bport bopq bpn bpl bhq bq bhf bfg]⟩:=ag.aZ (fun h=>by have e:List.isEmpty (PV.aA PV.bw [.ptr 0 0,aC 0 (.ptr 1 0) sc us pw hk hs hn hp port false true [] hq q hf fg bare sp rst,bD 0 bsc bus bpw bhk bhs bhn bhp bport bopq bpn bpl bhq bq bhf bfg])=false:=(by kernel_rfl);exact Bool.noConfusion (e.symm.trans (congrArg List.isEmpty h))) (vv sc us pw hk hs hn hp port hq q hf fg bare sp rst bsc bus bpw bhk bhs bhn bhp bport bopq bpn bpl bhq bq bhf bfg)
def j0:List PV→Option aF:=fun xs=>match xs with
 |[.ptr 0 0,aC 0 (.ptr 1 0) sc us pw hk hs hn hp port false true [] hq q hf fg bare sp rst,bD 0 bsc bus bpw bhk bhs bhn bhp bport bopq bpn bpl bhq bq bhf bfg]=>some ⟨rst.length≤300000∧bpl.length≤100000∧(ab rst rst 0).2.2=false∧bopq=false∧bsc=fL∧az (aw bsc) rst 0=false∧bN rst=false∧br rst=false,.tup [.int .i64 0,aC 0 (.ptr 1 0) (((RS.mk sc us pw hk hs hn hp port false true ([]:List Bs) hq q hf fg bare sp rst).au (RS.mk bsc bus bpw bhk bhs bhn bhp bport bopq bpn bpl bhq bq bhf bfg false false [])).sc) (((RS.mk sc us pw hk hs hn hp port false true ([]:List Bs) hq q hf fg bare sp rst).au (RS.mk bsc bus bpw bhk bhs bhn bhp bport bopq bpn bpl bhq bq bhf bfg false false [])).us) (((RS.mk sc us pw hk hs hn hp port false true ([]:List Bs) hq q hf fg bare sp rst).au (RS.mk bsc bus bpw bhk bhs bhn bhp bport bopq bpn bpl bhq bq bhf bfg false false [])).pw) (((RS.mk sc us pw hk hs hn hp port false true ([]:List Bs) hq q hf fg bare sp rst).au (RS.mk bsc bus bpw bhk bhs bhn bhp bport bopq bpn bpl bhq bq bhf bfg false false [])).hk) (((RS.mk sc us pw hk hs hn hp port false true ([]:List Bs) hq q hf fg bare sp rst).au (RS.mk bsc bus bpw bhk bhs bhn bhp bport bopq bpn bpl bhq bq bhf bfg false false [])).hs) (((RS.mk sc us pw hk hs hn hp port false true ([]:List Bs) hq q hf fg bare sp rst).au (RS.mk bsc bus bpw bhk bhs bhn bhp bport bopq bpn bpl bhq bq bhf bfg false false [])).hn) (((RS.mk sc us pw hk hs hn hp port false true ([]:List Bs) hq q hf fg bare sp rst).au (RS.mk bsc bus bpw bhk bhs bhn bhp bport bopq bpn bpl bhq bq bhf bfg false false [])).hp) (((RS.mk sc us pw hk hs hn hp port false true ([]:List Bs) hq q hf fg bare sp rst).au (RS.mk bsc bus bpw bhk bhs bhn bhp bport bopq bpn bpl bhq bq bhf bfg false false [])).port) (((RS.mk sc us pw hk hs hn hp port false true ([]:List Bs) hq q hf fg bare sp rst).au (RS.mk bsc bus bpw bhk bhs bhn bhp bport bopq bpn bpl bhq bq bhf bfg false false [])).opq) (((RS.mk sc us pw hk hs hn hp port false true ([]:List Bs) hq q hf fg bare sp rst).au (RS.mk bsc bus bpw bhk bhs bhn bhp bport bopq bpn bpl bhq bq bhf bfg false false [])).pn) (((RS.mk sc us pw hk hs hn hp port false true ([]:List Bs) hq q hf fg bare sp rst).au (RS.mk bsc bus bpw bhk bhs bhn bhp bport bopq bpn bpl bhq bq bhf bfg false false [])).pl) (((RS.mk sc us pw hk hs hn hp port false true ([]:List Bs) hq q hf fg bare sp rst).au (RS.mk bsc bus bpw bhk bhs bhn bhp bport bopq bpn bpl bhq bq bhf bfg false false [])).hq) (((RS.mk sc us pw hk hs hn hp port false true ([]:List Bs) hq q hf fg bare sp rst).au (RS.mk bsc bus bpw bhk bhs bhn bhp bport bopq bpn bpl bhq bq bhf bfg false false [])).q) (((RS.mk sc us pw hk hs hn hp port false true ([]:List Bs) hq q hf fg bare sp rst).au (RS.mk bsc bus bpw bhk bhs bhn bhp bport bopq bpn bpl bhq bq bhf bfg false false [])).hf) (((RS.mk sc us pw hk hs hn hp port false true ([]:List Bs) hq q hf fg bare sp rst).au (RS.mk bsc bus bpw bhk bhs bhn bhp bport bopq bpn bpl bhq bq bhf bfg false false [])).fg) (((RS.mk sc us pw hk hs hn hp port false true ([]:List Bs) hq q hf fg bare sp rst).au (RS.mk bsc bus bpw bhk bhs bhn bhp bport bopq bpn bpl bhq bq bhf bfg false false [])).bare) (((RS.mk sc us pw hk hs hn hp port false true ([]:List Bs) hq q hf fg bare sp rst).au (RS.mk bsc bus bpw bhk bhs bhn bhp bport bopq bpn bpl bhq bq bhf bfg false false [])).sp) (((RS.mk sc us pw hk hs hn hp port false true ([]:List Bs) hq q hf fg bare sp rst).au (RS.mk bsc bus bpw bhk bhs bhn bhp bport bopq bpn bpl bhq bq bhf bfg false false [])).rst),bD 0 bsc bus bpw bhk bhs bhn bhp bport bopq bpn bpl bhq bq bhf bfg]⟩
 |_=>none
theorem rj:∀xs c,j0 xs=some c→ag Tryz.prog ay 47 xs c:=fun xs c h=>by
 unfold j0 at h
 split at h
 ·injection h with h;subst h;exact Ar _ _ _ _ _ _ _ _ _ _ _ _ _ _ _ _ _ _ _ _ _ _ _ _ _ _ _ _ _ _
 ·cases h
end
section
def yg:cr:=bP [(46,kj),(47,j0)]
def yh(l:Bs)(bsc bus bpw:Bs)(bhk:Int)(bhs:Bs)(bhn:Int)(bhp:List Int)(bport:Int)(bopq bpn:Bool)(bpl:List Bs)(bhq:Bool)(bq:Bs)(bhf:Bool)(bfg:Bs):aY:=fun i=>none
theorem yi:cS Tryz.prog ay yg:=ai mo (ai rj (ax))
theorem DG(l:Bs)(bsc bus bpw:Bs)(bhk:Int)(bhs:Bs)(bhn:Int)(bhp:List Int)(bport:Int)(bopq bpn:Bool)(bpl:List Bs)(bhq:Bool)(bq:Bs)(bhf:Bool)(bfg:Bs)(k:PV→List PV→Prop):bL Tryz.prog yg ay (yh l bsc bus bpw bhk bhs bhn bhp bport bopq bpn bpl bhq bq bhf bfg) 1000 Tryz.f30 [.str l,.ptr 0 0] [bD 0 bsc bus bpw bhk bhs bhn bhp bport bopq bpn bpl bhq bq bhf bfg] k=(
 (decide ((1048576:Int)<ak l)=true→
 k
 (PV.tup
 [bD (0:Nat) [] [] [] (0:Int) [] (0:Int) (List.replicate (8:Nat) (0:Int)) (0:Int) false true [] false [] false [],
 PV.int .i64 (6:Int)])
 [bD (0:Nat) bsc bus bpw bhk bhs bhn bhp bport bopq bpn bpl bhq bq bhf bfg])∧
 (decide ((1048576:Int)<ak l)=false→
 (List.length l).le (60000:Nat)∧
 (List.length (an l)≤(300000:Nat)∧
 bpl.length≤(100000:Nat)∧
 (ab (an l) (an l)
 (0:Nat)).2.2=
 false∧
 bopq=false∧
 bsc=fL∧
 az (aw bsc) (an l)
 (0:Int)=
 false∧
 bN (an l)=false∧
 br (an l)=false)∧
 ((!decide ((0:Int)=(0:Int)))=true→
 k
 (PV.tup
 [bD (0:Nat) [] [] [] (0:Int) [] (0:Int) (List.replicate (8:Nat) (0:Int)) (0:Int) false true [] false [] false [],
 PV.int .i64 (0:Int)])
 [bD (0:Nat) bsc bus bpw bhk bhs bhn bhp bport bopq bpn bpl bhq bq bhf bfg])∧
 ((!decide ((0:Int)=(0:Int)))=false→
 k
 (PV.tup
 [bD (0:Nat) ((RS.mk [] [] [] (0:Int) [] (0:Int) (List.replicate (8:Nat) (0:Int)) (-1:Int) false true
 [] false [] false [] false false (an l)).au
 (RS.mk bsc bus bpw bhk bhs bhn bhp bport bopq bpn bpl bhq bq bhf bfg false false [])).sc ((RS.mk [] [] [] (0:Int) [] (0:Int) (List.replicate (8:Nat) (0:Int)) (-1:Int) false true
 [] false [] false [] false false (an l)).au
 (RS.mk bsc bus bpw bhk bhs bhn bhp bport bopq bpn bpl bhq bq bhf bfg false false [])).us ((RS.mk [] [] [] (0:Int) [] (0:Int) (List.replicate (8:Nat) (0:Int)) (-1:Int) false true
 [] false [] false [] false false (an l)).au
 (RS.mk bsc bus bpw bhk bhs bhn bhp bport bopq bpn bpl bhq bq bhf bfg false false [])).pw ((RS.mk [] [] [] (0:Int) [] (0:Int) (List.replicate (8:Nat) (0:Int)) (-1:Int) false
 true [] false [] false [] false false (an l)).au
 (RS.mk bsc bus bpw bhk bhs bhn bhp bport bopq bpn bpl bhq bq bhf bfg false false [])).hk ((RS.mk [] [] [] (0:Int) [] (0:Int) (List.replicate (8:Nat) (0:Int)) (-1:Int) false
 true [] false [] false [] false false (an l)).au
 (RS.mk bsc bus bpw bhk bhs bhn bhp bport bopq bpn bpl bhq bq bhf bfg false false [])).hs ((RS.mk [] [] [] (0:Int) [] (0:Int) (List.replicate (8:Nat) (0:Int)) (-1:Int) false
 true [] false [] false [] false false (an l)).au
 (RS.mk bsc bus bpw bhk bhs bhn bhp bport bopq bpn bpl bhq bq bhf bfg false false [])).hn ((RS.mk [] [] [] (0:Int) [] (0:Int) (List.replicate (8:Nat) (0:Int)) (-1:Int) false
 true [] false [] false [] false false (an l)).au
 (RS.mk bsc bus bpw bhk bhs bhn bhp bport bopq bpn bpl bhq bq bhf bfg false false
 [])).hp ((RS.mk [] [] [] (0:Int) [] (0:Int) (List.replicate (8:Nat) (0:Int)) (-1:Int) false true
 [] false [] false [] false false (an l)).au
 (RS.mk bsc bus bpw bhk bhs bhn bhp bport bopq bpn bpl bhq bq bhf bfg false false [])).port ((RS.mk [] [] [] (0:Int) [] (0:Int) (List.replicate (8:Nat) (0:Int)) (-1:Int) false true
 [] false [] false [] false false (an l)).au
 (RS.mk bsc bus bpw bhk bhs bhn bhp bport bopq bpn bpl bhq bq bhf bfg false false [])).opq ((RS.mk [] [] [] (0:Int) [] (0:Int) (List.replicate (8:Nat) (0:Int)) (-1:Int) false true
 [] false [] false [] false false (an l)).au
 (RS.mk bsc bus bpw bhk bhs bhn bhp bport bopq bpn bpl bhq bq bhf bfg false false [])).pn ((RS.mk [] [] [] (0:Int) [] (0:Int) (List.replicate (8:Nat) (0:Int)) (-1:Int) false true
 [] false [] false [] false false (an l)).au
 (RS.mk bsc bus bpw bhk bhs bhn bhp bport bopq bpn bpl bhq bq bhf bfg false false [])).pl ((RS.mk [] [] [] (0:Int) [] (0:Int) (List.replicate (8:Nat) (0:Int)) (-1:Int) false true
 [] false [] false [] false false (an l)).au
 (RS.mk bsc bus bpw bhk bhs bhn bhp bport bopq bpn bpl bhq bq bhf bfg false false [])).hq ((RS.mk [] [] [] (0:Int) [] (0:Int) (List.replicate (8:Nat) (0:Int)) (-1:Int) false true
 [] false [] false [] false false (an l)).au
 (RS.mk bsc bus bpw bhk bhs bhn bhp bport bopq bpn bpl bhq bq bhf bfg false false [])).q ((RS.mk [] [] [] (0:Int) [] (0:Int) (List.replicate (8:Nat) (0:Int)) (-1:Int) false true
 [] false [] false [] false false (an l)).au
 (RS.mk bsc bus bpw bhk bhs bhn bhp bport bopq bpn bpl bhq bq bhf bfg false false [])).hf ((RS.mk [] [] [] (0:Int) [] (0:Int) (List.replicate (8:Nat) (0:Int)) (-1:Int) false true
 [] false [] false [] false false (an l)).au
 (RS.mk bsc bus bpw bhk bhs bhn bhp bport bopq bpn bpl bhq bq bhf bfg false false [])).fg,
 PV.int .i64 (0:Int)])
 [bD (0:Nat) bsc bus bpw bhk bhs bhn bhp bport bopq bpn bpl bhq bq bhf bfg]))):=by kernel_rfl
attribute [local irreducible] Go.Vc.cD Go.Vc.bL
theorem yj(l:Bs)(bsc bus bpw:Bs)(bhk:Int)(bhs:Bs)(bhn:Int)(bhp:List Int)(bport:Int)(bopq bpn:Bool)(bpl:List Bs)(bhq:Bool)(bq:Bs)(bhf:Bool)(bfg:Bs):bm Tryz.prog ay 30 [.str l,.ptr 0 0] [bD 0 bsc bus bpw bhk bhs bhn bhp bport bopq bpn bpl bhq bq bhf bfg] (l.length≤60000∧bpl.length≤100000∧(ab (an l) (an l) 0).2.2=false∧bopq=false∧bsc=fL∧az (aw bsc) (an l) 0=false∧bN (an l)=false∧br (an l)=false) (.tup [bD 0 (((RS.init (an l)).au (RS.mk bsc bus bpw bhk bhs bhn bhp bport bopq bpn bpl bhq bq bhf bfg false false []))).sc (((RS.init (an l)).au (RS.mk bsc bus bpw bhk bhs bhn bhp bport bopq bpn bpl bhq bq bhf bfg false false []))).us (((RS.init (an l)).au (RS.mk bsc bus bpw bhk bhs bhn bhp bport bopq bpn bpl bhq bq bhf bfg false false []))).pw (((RS.init (an l)).au (RS.mk bsc bus bpw bhk bhs bhn bhp bport bopq bpn bpl bhq bq bhf bfg false false []))).hk (((RS.init (an l)).au (RS.mk bsc bus bpw bhk bhs bhn bhp bport bopq bpn bpl bhq bq bhf bfg false false []))).hs (((RS.init (an l)).au (RS.mk bsc bus bpw bhk bhs bhn bhp bport bopq bpn bpl bhq bq bhf bfg false false []))).hn (((RS.init (an l)).au (RS.mk bsc bus bpw bhk bhs bhn bhp bport bopq bpn bpl bhq bq bhf bfg false false []))).hp (((RS.init (an l)).au (RS.mk bsc bus bpw bhk bhs bhn bhp bport bopq bpn bpl bhq bq bhf bfg false false []))).port (((RS.init (an l)).au (RS.mk bsc bus bpw bhk bhs bhn bhp bport bopq bpn bpl bhq bq bhf bfg false false []))).opq (((RS.init (an l)).au (RS.mk bsc bus bpw bhk bhs bhn bhp bport bopq bpn bpl bhq bq bhf bfg false false []))).pn (((RS.init (an l)).au (RS.mk bsc bus bpw bhk bhs bhn bhp bport bopq bpn bpl bhq bq bhf bfg false false []))).pl (((RS.init (an l)).au (RS.mk bsc bus bpw bhk bhs bhn bhp bport bopq bpn bpl bhq bq bhf bfg false false []))).hq (((RS.init (an l)).au (RS.mk bsc bus bpw bhk bhs bhn bhp bport bopq bpn bpl bhq bq bhf bfg false false []))).q (((RS.init (an l)).au (RS.mk bsc bus bpw bhk bhs bhn bhp bport bopq bpn bpl bhq bq bhf bfg false false []))).hf (((RS.init (an l)).au (RS.mk bsc bus bpw bhk bhs bhn bhp bport bopq bpn bpl bhq bq bhf bfg false false []))).fg,.int .i64 0]) [bD 0 bsc bus bpw bhk bhs bhn bhp bport bopq bpn bpl bhq bq bhf bfg]:=bz (by kernel_rfl) yi (H:=yh l bsc bus bpw bhk bhs bhn bhp bport bopq bpn bpl bhq bq bhf bfg) (fuel:=1000) Tryz.func30 (by kernel_rfl) (Nat.le_of_ble_eq_true rfl) fun hpre=>(DG l bsc bus bpw bhk bhs bhn bhp bport bopq bpn bpl bhq bq bhf bfg _).mpr (by
 obtain ⟨h1,h2,h3,h4,h5,h6,h7,h8⟩:=hpre
 have hs:=tD l
 exact ⟨fun h=>absurd (of_decide_eq_true h) (by unfold ak;omega),fun _=>⟨h1,⟨by omega,h2,h3,h4,h5,h6,h7,h8⟩,(fun h=>absurd h (by decide)),fun _=>⟨rfl,rfl⟩⟩⟩)
theorem DH(l:Bs)(bsc bus bpw:Bs)(bhk:Int)(bhs:Bs)(bhn:Int)(bhp:List Int)(bport:Int)(bopq bpn:Bool)(bpl:List Bs)(bhq:Bool)(bq:Bs)(bhf:Bool)(bfg:Bs):ag Tryz.prog ay 30 [.str l,.ptr 0 0,bD 0 bsc bus bpw bhk bhs bhn bhp bport bopq bpn bpl bhq bq bhf bfg] ⟨l.length≤60000∧bpl.length≤100000∧(ab (an l) (an l) 0).2.2=false∧bopq=false∧bsc=fL∧az (aw bsc) (an l) 0=false∧bN (an l)=false∧br (an l)=false,.tup [.tup [bD 0 (((RS.init (an l)).au (RS.mk bsc bus bpw bhk bhs bhn bhp bport bopq bpn bpl bhq bq bhf bfg false false []))).sc (((RS.init (an l)).au (RS.mk bsc bus bpw bhk bhs bhn bhp bport bopq bpn bpl bhq bq bhf bfg false false []))).us (((RS.init (an l)).au (RS.mk bsc bus bpw bhk bhs bhn bhp bport bopq bpn bpl bhq bq bhf bfg false false []))).pw (((RS.init (an l)).au (RS.mk bsc bus bpw bhk bhs bhn bhp bport bopq bpn bpl bhq bq bhf bfg false false []))).hk (((RS.init (an l)).au (RS.mk bsc bus bpw bhk bhs bhn bhp bport bopq bpn bpl bhq bq bhf bfg false false []))).hs (((RS.init (an l)).au (RS.mk bsc bus bpw bhk bhs bhn bhp bport bopq bpn bpl bhq bq bhf bfg false false []))).hn (((RS.init (an l)).au (RS.mk bsc bus bpw bhk bhs bhn bhp bport bopq bpn bpl bhq bq bhf bfg false false []))).hp (((RS.init (an l)).au (RS.mk bsc bus bpw bhk bhs bhn bhp bport bopq bpn bpl bhq bq bhf bfg false false []))).port (((RS.init (an l)).au (RS.mk bsc bus bpw bhk bhs bhn bhp bport bopq bpn bpl bhq bq bhf bfg false false []))).opq (((RS.init (an l)).au (RS.mk bsc bus bpw bhk bhs bhn bhp bport bopq bpn bpl bhq bq bhf bfg false false []))).pn (((RS.init (an l)).au (RS.mk bsc bus bpw bhk bhs bhn bhp bport bopq bpn bpl bhq bq bhf bfg false false []))).pl (((RS.init (an l)).au (RS.mk bsc bus bpw bhk bhs bhn bhp bport bopq bpn bpl bhq bq bhf bfg false false []))).hq (((RS.init (an l)).au (RS.mk bsc bus bpw bhk bhs bhn bhp bport bopq bpn bpl bhq bq bhf bfg false false []))).q (((RS.init (an l)).au (RS.mk bsc bus bpw bhk bhs bhn bhp bport bopq bpn bpl bhq bq bhf bfg false false []))).hf (((RS.init (an l)).au (RS.mk bsc bus bpw bhk bhs bhn bhp bport bopq bpn bpl bhq bq bhf bfg false false []))).fg,.int .i64 0],bD 0 bsc bus bpw bhk bhs bhn bhp bport bopq bpn bpl bhq bq bhf bfg]⟩:=ag.aZ (fun h=>by have e:List.isEmpty (PV.aA PV.bw [.str l,.ptr 0 0,bD 0 bsc bus bpw bhk bhs bhn bhp bport bopq bpn bpl bhq bq bhf bfg])=false:=(by kernel_rfl);exact Bool.noConfusion (e.symm.trans (congrArg List.isEmpty h))) (yj l bsc bus bpw bhk bhs bhn bhp bport bopq bpn bpl bhq bq bhf bfg)
def lu:List PV→Option aF:=fun xs=>match xs with
 |[.str l,.ptr 0 0,bD 0 bsc bus bpw bhk bhs bhn bhp bport bopq bpn bpl bhq bq bhf bfg]=>some ⟨l.length≤60000∧bpl.length≤100000∧(ab (an l) (an l) 0).2.2=false∧bopq=false∧bsc=fL∧az (aw bsc) (an l) 0=false∧bN (an l)=false∧br (an l)=false,.tup [.tup [bD 0 (((RS.init (an l)).au (RS.mk bsc bus bpw bhk bhs bhn bhp bport bopq bpn bpl bhq bq bhf bfg false false []))).sc (((RS.init (an l)).au (RS.mk bsc bus bpw bhk bhs bhn bhp bport bopq bpn bpl bhq bq bhf bfg false false []))).us (((RS.init (an l)).au (RS.mk bsc bus bpw bhk bhs bhn bhp bport bopq bpn bpl bhq bq bhf bfg false false []))).pw (((RS.init (an l)).au (RS.mk bsc bus bpw bhk bhs bhn bhp bport bopq bpn bpl bhq bq bhf bfg false false []))).hk (((RS.init (an l)).au (RS.mk bsc bus bpw bhk bhs bhn bhp bport bopq bpn bpl bhq bq bhf bfg false false []))).hs (((RS.init (an l)).au (RS.mk bsc bus bpw bhk bhs bhn bhp bport bopq bpn bpl bhq bq bhf bfg false false []))).hn (((RS.init (an l)).au (RS.mk bsc bus bpw bhk bhs bhn bhp bport bopq bpn bpl bhq bq bhf bfg false false []))).hp (((RS.init (an l)).au (RS.mk bsc bus bpw bhk bhs bhn bhp bport bopq bpn bpl bhq bq bhf bfg false false []))).port (((RS.init (an l)).au (RS.mk bsc bus bpw bhk bhs bhn bhp bport bopq bpn bpl bhq bq bhf bfg false false []))).opq (((RS.init (an l)).au (RS.mk bsc bus bpw bhk bhs bhn bhp bport bopq bpn bpl bhq bq bhf bfg false false []))).pn (((RS.init (an l)).au (RS.mk bsc bus bpw bhk bhs bhn bhp bport bopq bpn bpl bhq bq bhf bfg false false []))).pl (((RS.init (an l)).au (RS.mk bsc bus bpw bhk bhs bhn bhp bport bopq bpn bpl bhq bq bhf bfg false false []))).hq (((RS.init (an l)).au (RS.mk bsc bus bpw bhk bhs bhn bhp bport bopq bpn bpl bhq bq bhf bfg false false []))).q (((RS.init (an l)).au (RS.mk bsc bus bpw bhk bhs bhn bhp bport bopq bpn bpl bhq bq bhf bfg false false []))).hf (((RS.init (an l)).au (RS.mk bsc bus bpw bhk bhs bhn bhp bport bopq bpn bpl bhq bq bhf bfg false false []))).fg,.int .i64 0],bD 0 bsc bus bpw bhk bhs bhn bhp bport bopq bpn bpl bhq bq bhf bfg]⟩
 |_=>none
theorem rZ:∀xs c,lu xs=some c→ag Tryz.prog ay 30 xs c:=fun xs c h=>by
 unfold lu at h
 split at h
 ·injection h with h;subst h;exact DH _ _ _ _ _ _ _ _ _ _ _ _ _ _ _ _
 ·cases h
end
section
def yk:cr:=bP [(30,lu)]
def yl(l:Bs)(bsc bus bpw:Bs)(bhk:Int)(bhs:Bs)(bhn:Int)(bhp:List Int)(bport:Int)(bopq bpn:Bool)(bpl:List Bs)(bhq:Bool)(bq:Bs)(bhf:Bool)(bfg:Bs):aY:=fun i=>none
theorem ym:cS Tryz.prog ay yk:=ai rZ (ax)
theorem DI(l:Bs)(bsc bus bpw:Bs)(bhk:Int)(bhs:Bs)(bhn:Int)(bhp:List Int)(bport:Int)(bopq bpn:Bool)(bpl:List Bs)(bhq:Bool)(bq:Bs)(bhf:Bool)(bfg:Bs)(k:PV→Prop):cD Tryz.prog yk ay (yl l bsc bus bpw bhk bhs bhn bhp bport bopq bpn bpl bhq bq bhf bfg) 1000 Tryz.f21 [.str l,bD 0 bsc bus bpw bhk bhs bhn bhp bport bopq bpn bpl bhq bq bhf bfg] k=(
 (List.length l≤(60000:Nat)∧
 bpl.length≤(100000:Nat)∧
 (ab (an l) (an l)
 (0:Nat)).2.2=
 false∧
 bopq=false∧
 bsc=fL∧
 az (aw bsc) (an l) (0:Int)=
 false∧
 bN (an l)=false∧
 br (an l)=false)∧
 k
 (PV.tup
 [bD (0:Nat) ((RS.init (an l)).au
 (RS.mk bsc bus bpw bhk bhs bhn bhp bport bopq bpn bpl bhq bq bhf bfg false false [])).sc ((RS.init (an l)).au
 (RS.mk bsc bus bpw bhk bhs bhn bhp bport bopq bpn bpl bhq bq bhf bfg false false [])).us ((RS.init (an l)).au
 (RS.mk bsc bus bpw bhk bhs bhn bhp bport bopq bpn bpl bhq bq bhf bfg false false [])).pw ((RS.init (an l)).au
 (RS.mk bsc bus bpw bhk bhs bhn bhp bport bopq bpn bpl bhq bq bhf bfg false false [])).hk ((RS.init (an l)).au
 (RS.mk bsc bus bpw bhk bhs bhn bhp bport bopq bpn bpl bhq bq bhf bfg false false [])).hs ((RS.init (an l)).au
 (RS.mk bsc bus bpw bhk bhs bhn bhp bport bopq bpn bpl bhq bq bhf bfg false false [])).hn ((RS.init (an l)).au
 (RS.mk bsc bus bpw bhk bhs bhn bhp bport bopq bpn bpl bhq bq bhf bfg false false [])).hp ((RS.init (an l)).au
 (RS.mk bsc bus bpw bhk bhs bhn bhp bport bopq bpn bpl bhq bq bhf bfg false false [])).port ((RS.init (an l)).au
 (RS.mk bsc bus bpw bhk bhs bhn bhp bport bopq bpn bpl bhq bq bhf bfg false false [])).opq ((RS.init (an l)).au
 (RS.mk bsc bus bpw bhk bhs bhn bhp bport bopq bpn bpl bhq bq bhf bfg false false [])).pn ((RS.init (an l)).au
 (RS.mk bsc bus bpw bhk bhs bhn bhp bport bopq bpn bpl bhq bq bhf bfg false false [])).pl ((RS.init (an l)).au
 (RS.mk bsc bus bpw bhk bhs bhn bhp bport bopq bpn bpl bhq bq bhf bfg false false [])).hq ((RS.init (an l)).au
 (RS.mk bsc bus bpw bhk bhs bhn bhp bport bopq bpn bpl bhq bq bhf bfg false false [])).q ((RS.init (an l)).au
 (RS.mk bsc bus bpw bhk bhs bhn bhp bport bopq bpn bpl bhq bq bhf bfg false false [])).hf ((RS.init (an l)).au
 (RS.mk bsc bus bpw bhk bhs bhn bhp bport bopq bpn bpl bhq bq bhf bfg false false [])).fg,
 PV.int .i64 (0:Int)])):=by kernel_rfl
attribute [local irreducible] Go.Vc.cD
theorem DJ(l:Bs)(bsc bus bpw:Bs)(bhk:Int)(bhs:Bs)(bhn:Int)(bhp:List Int)(bport:Int)(bopq bpn:Bool)(bpl:List Bs)(bhq:Bool)(bq:Bs)(bhf:Bool)(bfg:Bs):ag Tryz.prog ay 21 [.str l,bD 0 bsc bus bpw bhk bhs bhn bhp bport bopq bpn bpl bhq bq bhf bfg] ⟨l.length≤60000∧bpl.length≤100000∧(ab (an l) (an l) 0).2.2=false∧bopq=false∧bsc=fL∧az (aw bsc) (an l) 0=false∧bN (an l)=false∧br (an l)=false,.tup [bD 0 (((RS.init (an l)).au (RS.mk bsc bus bpw bhk bhs bhn bhp bport bopq bpn bpl bhq bq bhf bfg false false []))).sc (((RS.init (an l)).au (RS.mk bsc bus bpw bhk bhs bhn bhp bport bopq bpn bpl bhq bq bhf bfg false false []))).us (((RS.init (an l)).au (RS.mk bsc bus bpw bhk bhs bhn bhp bport bopq bpn bpl bhq bq bhf bfg false false []))).pw (((RS.init (an l)).au (RS.mk bsc bus bpw bhk bhs bhn bhp bport bopq bpn bpl bhq bq bhf bfg false false []))).hk (((RS.init (an l)).au (RS.mk bsc bus bpw bhk bhs bhn bhp bport bopq bpn bpl bhq bq bhf bfg false false []))).hs (((RS.init (an l)).au (RS.mk bsc bus bpw bhk bhs bhn bhp bport bopq bpn bpl bhq bq bhf bfg false false []))).hn (((RS.init (an l)).au (RS.mk bsc bus bpw bhk bhs bhn bhp bport bopq bpn bpl bhq bq bhf bfg false false []))).hp (((RS.init (an l)).au (RS.mk bsc bus bpw bhk bhs bhn bhp bport bopq bpn bpl bhq bq bhf bfg false false []))).port (((RS.init (an l)).au (RS.mk bsc bus bpw bhk bhs bhn bhp bport bopq bpn bpl bhq bq bhf bfg false false []))).opq (((RS.init (an l)).au (RS.mk bsc bus bpw bhk bhs bhn bhp bport bopq bpn bpl bhq bq bhf bfg false false []))).pn (((RS.init (an l)).au (RS.mk bsc bus bpw bhk bhs bhn bhp bport bopq bpn bpl bhq bq bhf bfg false false []))).pl (((RS.init (an l)).au (RS.mk bsc bus bpw bhk bhs bhn bhp bport bopq bpn bpl bhq bq bhf bfg false false []))).hq (((RS.init (an l)).au (RS.mk bsc bus bpw bhk bhs bhn bhp bport bopq bpn bpl bhq bq bhf bfg false false []))).q (((RS.init (an l)).au (RS.mk bsc bus bpw bhk bhs bhn bhp bport bopq bpn bpl bhq bq bhf bfg false false []))).hf (((RS.init (an l)).au (RS.mk bsc bus bpw bhk bhs bhn bhp bport bopq bpn bpl bhq bq bhf bfg false false []))).fg,.int .i64 0]⟩:=cl (by kernel_rfl) ym (H:=yl l bsc bus bpw bhk bhs bhn bhp bport bopq bpn bpl bhq bq bhf bfg) (fuel:=1000) Tryz.func21 (by kernel_rfl) fun hpre=>(DI l bsc bus bpw bhk bhs bhn bhp bport bopq bpn bpl bhq bq bhf bfg _).mpr (by
 exact ⟨hpre,rfl⟩)
end
section
attribute [local instance] Kj
noncomputable def dP(l:Bs):RS×Int:=Classical.choose (⟨aS l,rfl⟩:∃x,x=aS l)
theorem o8(l:Bs):dP l=aS l:=Classical.choose_spec (⟨aS l,rfl⟩:∃x,x=aS l)
noncomputable def cJ(l:Bs)(b:RS):RS:=Classical.choose (⟨(RS.init (an l)).au b,rfl⟩:∃x,x=(RS.init (an l)).au b)
theorem yn(l:Bs)(b:RS):cJ l b=(RS.init (an l)).au b:=Classical.choose_spec (⟨(RS.init (an l)).au b,rfl⟩:∃x,x=(RS.init (an l)).au b)
@[irreducible] def vw (l:Bs):Prop:=l.length≤60000
theorem DK(l:Bs):vw l=(l.length≤60000):=by unfold vw;rfl
@[irreducible] def IG (l:Bs) (bsc bus bpw:Bs) (bhk:Int) (bhs:Bs) (bhn:Int) (bhp:List Int) (bport:Int) (bopq bpn:Bool) (bpl:List Bs) (bhq:Bool) (bq:Bs) (bhf:Bool) (bfg:Bs):Prop:=l.length≤60000∧bpl.length≤100000∧(ab (an l) (an l) 0).2.2=false∧bopq=false∧bsc=fL∧az (aw bsc) (an l) 0=false∧bN (an l)=false∧br (an l)=false
theorem IH(l:Bs)(bsc bus bpw:Bs)(bhk:Int)(bhs:Bs)(bhn:Int)(bhp:List Int)(bport:Int)(bopq bpn:Bool)(bpl:List Bs)(bhq:Bool)(bq:Bs)(bhf:Bool)(bfg:Bs):IG l bsc bus bpw bhk bhs bhn bhp bport bopq bpn bpl bhq bq bhf bfg=(l.length≤60000∧bpl.length≤100000∧(ab (an l) (an l) 0).2.2=false∧bopq=false∧bsc=fL∧az (aw bsc) (an l) 0=false∧bN (an l)=false∧br (an l)=false):=by unfold IG;rfl
theorem DL(l:Bs):ag Tryz.prog ay 19 [.str l] ⟨vw l,.tup [bD 0 ((dP l).1).sc ((dP l).1).us ((dP l).1).pw ((dP l).1).hk ((dP l).1).hs ((dP l).1).hn ((dP l).1).hp ((dP l).1).port ((dP l).1).opq ((dP l).1).pn ((dP l).1).pl ((dP l).1).hq ((dP l).1).q ((dP l).1).hf ((dP l).1).fg,.int .i64 (dP l).2]⟩:=(tE l).to (fun h=>by rw [DK]at h;exact h) (fun _=>by rw [o8])
noncomputable def lv:List PV→Option aF:=fun xs=>match xs with
 |[.str l]=>some ⟨vw l,.tup [bD 0 ((dP l).1).sc ((dP l).1).us ((dP l).1).pw ((dP l).1).hk ((dP l).1).hs ((dP l).1).hn ((dP l).1).hp ((dP l).1).port ((dP l).1).opq ((dP l).1).pn ((dP l).1).pl ((dP l).1).hq ((dP l).1).q ((dP l).1).hf ((dP l).1).fg,.int .i64 (dP l).2]⟩
 |_=>none
theorem r5:∀xs c,lv xs=some c→ag Tryz.prog ay 19 xs c:=fun xs c h=>by
 unfold lv at h
 split at h
 ·injection h with h;subst h;exact DL _
 ·cases h
theorem Gp(l:Bs)(bsc bus bpw:Bs)(bhk:Int)(bhs:Bs)(bhn:Int)(bhp:List Int)(bport:Int)(bopq bpn:Bool)(bpl:List Bs)(bhq:Bool)(bq:Bs)(bhf:Bool)(bfg:Bs):ag Tryz.prog ay 21 [.str l,bD 0 bsc bus bpw bhk bhs bhn bhp bport bopq bpn bpl bhq bq bhf bfg] ⟨IG l bsc bus bpw bhk bhs bhn bhp bport bopq bpn bpl bhq bq bhf bfg,.tup [bD 0 ((cJ l (RS.mk bsc bus bpw bhk bhs bhn bhp bport bopq bpn bpl bhq bq bhf bfg false false []))).sc ((cJ l (RS.mk bsc bus bpw bhk bhs bhn bhp bport bopq bpn bpl bhq bq bhf bfg false false []))).us ((cJ l (RS.mk bsc bus bpw bhk bhs bhn bhp bport bopq bpn bpl bhq bq bhf bfg false false []))).pw ((cJ l (RS.mk bsc bus bpw bhk bhs bhn bhp bport bopq bpn bpl bhq bq bhf bfg false false []))).hk ((cJ l (RS.mk bsc bus bpw bhk bhs bhn bhp bport bopq bpn bpl bhq bq bhf bfg false false []))).hs ((cJ l (RS.mk bsc bus bpw bhk bhs bhn bhp bport bopq bpn bpl bhq bq bhf bfg false false []))).hn ((cJ l (RS.mk bsc bus bpw bhk bhs bhn bhp bport bopq bpn bpl bhq bq bhf bfg false false []))).hp ((cJ l (RS.mk bsc bus bpw bhk bhs bhn bhp bport bopq bpn bpl bhq bq bhf bfg false false []))).port ((cJ l (RS.mk bsc bus bpw bhk bhs bhn bhp bport bopq bpn bpl bhq bq bhf bfg false false []))).opq ((cJ l (RS.mk bsc bus bpw bhk bhs bhn bhp bport bopq bpn bpl bhq bq bhf bfg false false []))).pn ((cJ l (RS.mk bsc bus bpw bhk bhs bhn bhp bport bopq bpn bpl bhq bq bhf bfg false false []))).pl ((cJ l (RS.mk bsc bus bpw bhk bhs bhn bhp bport bopq bpn bpl bhq bq bhf bfg false false []))).hq ((cJ l (RS.mk bsc bus bpw bhk bhs bhn bhp bport bopq bpn bpl bhq bq bhf bfg false false []))).q ((cJ l (RS.mk bsc bus bpw bhk bhs bhn bhp bport bopq bpn bpl bhq bq bhf bfg false false []))).hf ((cJ l (RS.mk bsc bus bpw bhk bhs bhn bhp bport bopq bpn bpl bhq bq bhf bfg false false []))).fg,.int .i64 0]⟩:=(DJ l bsc bus bpw bhk bhs bhn bhp bport bopq bpn bpl bhq bq bhf bfg).to (fun h=>by rw [IH]at h;exact h) (fun _=>by rw [yn])
noncomputable def nS:List PV→Option aF:=fun xs=>match xs with
 |[.str l,bD 0 bsc bus bpw bhk bhs bhn bhp bport bopq bpn bpl bhq bq bhf bfg]=>some ⟨IG l bsc bus bpw bhk bhs bhn bhp bport bopq bpn bpl bhq bq bhf bfg,.tup [bD 0 ((cJ l (RS.mk bsc bus bpw bhk bhs bhn bhp bport bopq bpn bpl bhq bq bhf bfg false false []))).sc ((cJ l (RS.mk bsc bus bpw bhk bhs bhn bhp bport bopq bpn bpl bhq bq bhf bfg false false []))).us ((cJ l (RS.mk bsc bus bpw bhk bhs bhn bhp bport bopq bpn bpl bhq bq bhf bfg false false []))).pw ((cJ l (RS.mk bsc bus bpw bhk bhs bhn bhp bport bopq bpn bpl bhq bq bhf bfg false false []))).hk ((cJ l (RS.mk bsc bus bpw bhk bhs bhn bhp bport bopq bpn bpl bhq bq bhf bfg false false []))).hs ((cJ l (RS.mk bsc bus bpw bhk bhs bhn bhp bport bopq bpn bpl bhq bq bhf bfg false false []))).hn ((cJ l (RS.mk bsc bus bpw bhk bhs bhn bhp bport bopq bpn bpl bhq bq bhf bfg false false []))).hp ((cJ l (RS.mk bsc bus bpw bhk bhs bhn bhp bport bopq bpn bpl bhq bq bhf bfg false false []))).port ((cJ l (RS.mk bsc bus bpw bhk bhs bhn bhp bport bopq bpn bpl bhq bq bhf bfg false false []))).opq ((cJ l (RS.mk bsc bus bpw bhk bhs bhn bhp bport bopq bpn bpl bhq bq bhf bfg false false []))).pn ((cJ l (RS.mk bsc bus bpw bhk bhs bhn bhp bport bopq bpn bpl bhq bq bhf bfg false false []))).pl ((cJ l (RS.mk bsc bus bpw bhk bhs bhn bhp bport bopq bpn bpl bhq bq bhf bfg false false []))).hq ((cJ l (RS.mk bsc bus bpw bhk bhs bhn bhp bport bopq bpn bpl bhq bq bhf bfg false false []))).q ((cJ l (RS.mk bsc bus bpw bhk bhs bhn bhp bport bopq bpn bpl bhq bq bhf bfg false false []))).hf ((cJ l (RS.mk bsc bus bpw bhk bhs bhn bhp bport bopq bpn bpl bhq bq bhf bfg false false []))).fg,.int .i64 0]⟩
 |_=>none
theorem vx:∀xs c,nS xs=some c→ag Tryz.prog ay 21 xs c:=fun xs c h=>by
 unfold nS at h
 split at h
 ·injection h with h;subst h;exact Gp _ _ _ _ _ _ _ _ _ _ _ _ _ _ _ _
 ·cases h
end
section
def Lg:Bs:=[72,84,84,80,58,92,92,117,64,104,58,56,48,47,97,47,46,46,47,98,63]
def Lh:Bs:=[102,105,108,101,58,47,47,47,67,58,47,121]
def KQ:Bs:=[46,46,92,120]
def aH:Bs:=[104,116,116,112]
def aV:Bs:=[119,115,115]
noncomputable def nT:RS×Int:=dP Lg
noncomputable def nU:RS×Int:=dP Lh
noncomputable def aJ:RS:=cJ KQ (RS.mk nU.1.sc nU.1.us nU.1.pw nU.1.hk nU.1.hs nU.1.hn nU.1.hp nU.1.port nU.1.opq nU.1.pn nU.1.pl nU.1.hq nU.1.q nU.1.hf nU.1.fg false false [])
theorem Lm:nT.2=0∧nT.1.sc=aH∧nT.1.us=[117]∧nT.1.port=-1∧nT.1.pl=[[98]]∧nT.1.hq=true:=by
 unfold nT;rw [o8];decide+kernel
theorem Ln:nU.2=0∧nU.1.sc=fL∧nU.1.opq=false∧nU.1.pl.length≤100000:=by
 unfold nU;rw [o8];decide+kernel
theorem Li:aJ.pl=[[67,58],[120]]:=by
 unfold aJ nU;rw [o8,yn];decide+kernel
noncomputable def BF:cr:=bP [(19,lv),(21,nS),(27,dM)]
def BG:aY:=fun i=>none
theorem As:cS Tryz.prog ay BF:=ai r5 (ai vx (ai dN (ax)))
theorem Gq(k:PV→Prop):cD Tryz.prog BF ay (BG) 1000 Tryz.f14 [] k=(
 Lg.length.le (60000:Nat)∧Lh.length.le (60000:Nat)∧(KQ.length≤(60000:Nat)∧nU.1.pl.length≤(100000:Nat)∧false=false∧nU.1.opq=false∧nU.1.sc=fL∧az (aw nU.1.sc) (an KQ) (0:Int)=false∧bN (an KQ)=false∧br (an KQ)=false)∧True∧((bif bif bif bif decide (nT.2=(0:Int))then decide (nT.1.sc=aH)else false then decide (nT.1.us=([117]:Bs))else false then decide (nT.1.port=(-1:Int))else false then decide (Int.ofNat nT.1.pl.length=(1:Int))else false)=true→within (0:Int) (Int.ofNat nT.1.pl.length))∧((bif bif bif bif bif bif bif bif bif decide (nT.2=(0:Int))then decide (nT.1.sc=aH)else false then decide (nT.1.us=([117]:Bs))else false then decide (nT.1.port=(-1:Int))else false then decide (Int.ofNat nT.1.pl.length=(1:Int))else false then decide (cd nT.1.pl (0:Int)=([98]:Bs))else false then nT.1.hq else false then decide (nU.2=(0:Int))else false then decide ((0:Int)=(0:Int))else false then decide (Int.ofNat aJ.pl.length=(2:Int))else false)=true→within (1:Int) (Int.ofNat aJ.pl.length))∧k (PV.bool (bif bif bif bif bif bif bif bif bif bif bif bif decide (nT.2=(0:Int))then decide (nT.1.sc=aH)else false then decide (nT.1.us=([117]:Bs))else false then decide (nT.1.port=(-1:Int))else false then decide (Int.ofNat nT.1.pl.length=(1:Int))else false then decide (cd nT.1.pl (0:Int)=([98]:Bs))else false then nT.1.hq else false then decide (nU.2=(0:Int))else false then decide ((0:Int)=(0:Int))else false then decide (Int.ofNat aJ.pl.length=(2:Int))else false then decide (cd aJ.pl (1:Int)=([120]:Bs))else false then decide (wR aV=(443:Int))else false then aw aV else false))):=by kernel_rfl
attribute [local irreducible] Go.Vc.cD
theorem Gr:ag Tryz.prog ay 14 [] ⟨True,.bool true⟩:=cl (by kernel_rfl) As (H:=BG) (fuel:=1000) Tryz.func14 (by kernel_rfl) fun hpre=>(Gq _).mpr (by
 obtain ⟨h1,h2,h3,h4,h5,h6⟩:=Lm
 obtain ⟨g1,g2,g3,g4⟩:=Ln
 refine ⟨show(21:Nat)≤60000 by decide,show(12:Nat)≤60000 by decide,⟨show(4:Nat)≤60000 by decide,g4,rfl,g3,g2,by rw [g2];decide,by decide,by decide⟩,trivial,fun _=>by rw [h5];exact ⟨by decide,by decide⟩,fun _=>by rw [Li];exact ⟨by decide,by decide⟩,?_⟩
 rw [h1,h2,h3,h4,h5,h6,g1,Li]
 exact congrArg PV.bool (by decide+kernel))
def nV:List PV→Option aF:=fun xs=>match xs with
 |[]=>some ⟨True,.bool true⟩
 |_=>none
theorem vy:∀xs c,nV xs=some c→ag Tryz.prog ay 14 xs c:=fun xs c h=>by
 unfold nV at h
 split at h
 ·injection h with h;subst h;exact Gr
 ·cases h
end
section
def BH:cr:=bP [(17,uF),(24,qi),(19,lr),(14,nV)]
def BI(a b c:Int):aY:=fun i=>none
theorem Au:cS Tryz.prog ay BH:=ai zp (ai wV (ai rX (ai vy (ax))))
theorem Gs(a b c:Int)(k:PV→Prop):cD Tryz.prog BH ay (BI a b c) 1000 Tryz.f7 [.int .i64 a,.int .i64 b,.int .i64 c] k=(
 ((-9223372036854775808:Int)≤a∧a≤(9223372036854775807:Int)∧(1:Int)≤(70000:Int)∧(70000:Int)≤(4611686018427387904:Int))∧
 ((-9223372036854775808:Int)≤c∧c≤(9223372036854775807:Int)∧(1:Int)≤(6:Int)∧(6:Int)≤(4611686018427387904:Int))∧
 ((-9223372036854775808:Int)≤b∧b≤(9223372036854775807:Int)∧(1:Int)≤(5:Int)∧(5:Int)≤(4611686018427387904:Int))∧
 (decide (aD b (5:Int)=(4:Int))=true→
 within (aD c (6:Int))
 (Int.ofNat [(80:Int),(443:Int),(80:Int),(443:Int),(21:Int),(-2:Int)].length))∧
 ((bif decide (aD b (5:Int)=(4:Int))then
 decide
 ((0:Int)<
 ez [(80:Int),(443:Int),(80:Int),(443:Int),(21:Int),(-2:Int)]
 (aD c (6:Int)))
 else false)=
 true→
 within (aD c (6:Int))
 (Int.ofNat [(80:Int),(443:Int),(80:Int),(443:Int),(21:Int),(-2:Int)].length)∧
 within (aD c (6:Int))
 (Int.ofNat
 [(ByteArray.mk #[104,116,116,112]).data.toList,
 (ByteArray.mk #[104,116,116,112,115]).data.toList,
 (ByteArray.mk #[119,115]).data.toList,(ByteArray.mk #[119,115,115]).data.toList,
 (ByteArray.mk #[102,116,112]).data.toList,(ByteArray.mk #[120]).data.toList].length)∧
 List.length
 (cd
 [(ByteArray.mk #[104,116,116,112]).data.toList,
 (ByteArray.mk #[104,116,116,112,115]).data.toList,
 (ByteArray.mk #[119,115]).data.toList,
 (ByteArray.mk #[119,115,115]).data.toList,
 (ByteArray.mk #[102,116,112]).data.toList,(ByteArray.mk #[120]).data.toList]
 (aD c (6:Int)))+
 (ByteArray.mk #[58,47,47,104,58]).data.toList.length≤
 Go.Vc.maxLen∧
 ((-9223372036854775808:Int)≤b∧b≤(9223372036854775807:Int)∧(1:Int)≤(4:Int)∧(4:Int)≤(4611686018427387904:Int))∧
 upto (0:Int) (aD b (4:Int))
 (ak (ByteArray.mk #[48,48,48]).data.toList)∧
 List.length
 (cd
 [(ByteArray.mk #[104,116,116,112]).data.toList,
 (ByteArray.mk #[104,116,116,112,115]).data.toList,
 (ByteArray.mk #[119,115]).data.toList,
 (ByteArray.mk #[119,115,115]).data.toList,
 (ByteArray.mk #[102,116,112]).data.toList,(ByteArray.mk #[120]).data.toList]
 (aD c (6:Int))++
 (ByteArray.mk #[58,47,47,104,58]).data.toList)+
 (ae (ByteArray.mk #[48,48,48]).data.toList
 (aD b (4:Int))).length≤
 Go.Vc.maxLen∧
 ((0:Int)≤
 ez [(80:Int),(443:Int),(80:Int),(443:Int),(21:Int),(-2:Int)]
 (aD c (6:Int))∧
 ez [(80:Int),(443:Int),(80:Int),(443:Int),(21:Int),(-2:Int)]
 (aD c (6:Int))≤
 (1000000000:Int))∧
 List.length
 (cd
 [(ByteArray.mk #[104,116,116,112]).data.toList,
 (ByteArray.mk #[104,116,116,112,115]).data.toList,
 (ByteArray.mk #[119,115]).data.toList,
 (ByteArray.mk #[119,115,115]).data.toList,
 (ByteArray.mk #[102,116,112]).data.toList,
 (ByteArray.mk #[120]).data.toList]
 (aD c (6:Int))++
 (ByteArray.mk #[58,47,47,104,58]).data.toList++
 ae (ByteArray.mk #[48,48,48]).data.toList
 (aD b (4:Int)))+
 List.length
 (dB
 (ez [(80:Int),(443:Int),(80:Int),(443:Int),(21:Int),(-2:Int)]
 (aD c (6:Int))))≤
 Go.Vc.maxLen∧
 List.length
 (cd
 [(ByteArray.mk #[104,116,116,112]).data.toList,
 (ByteArray.mk #[104,116,116,112,115]).data.toList,
 (ByteArray.mk #[119,115]).data.toList,
 (ByteArray.mk #[119,115,115]).data.toList,
 (ByteArray.mk #[102,116,112]).data.toList,
 (ByteArray.mk #[120]).data.toList]
 (aD c (6:Int))++
 (ByteArray.mk #[58,47,47,104,58]).data.toList++
 ae (ByteArray.mk #[48,48,48]).data.toList
 (aD b (4:Int))++
 dB
 (ez [(80:Int),(443:Int),(80:Int),(443:Int),(21:Int),(-2:Int)]
 (aD c (6:Int))))+
 (ByteArray.mk #[47,112]).data.toList.length≤
 Go.Vc.maxLen∧
 (List.length
 (cd
 [(ByteArray.mk #[104,116,116,112]).data.toList,
 (ByteArray.mk #[104,116,116,112,115]).data.toList,
 (ByteArray.mk #[119,115]).data.toList,
 (ByteArray.mk #[119,115,115]).data.toList,
 (ByteArray.mk #[102,116,112]).data.toList,
 (ByteArray.mk #[120]).data.toList]
 (aD c (6:Int))++
 (ByteArray.mk #[58,47,47,104,58]).data.toList++
 ae (ByteArray.mk #[48,48,48]).data.toList
 (aD b (4:Int))++
 dB
 (ez [(80:Int),(443:Int),(80:Int),(443:Int),(21:Int),(-2:Int)]
 (aD c (6:Int)))++
 (ByteArray.mk #[47,112]).data.toList)).le
 (60000:Nat)∧
 (decide
 ((65535:Int)<
 ez [(80:Int),(443:Int),(80:Int),(443:Int),(21:Int),(-2:Int)]
 (aD c (6:Int)))=
 true→
 (decide
 ((aS
 (cd
 [(ByteArray.mk #[104,116,116,112]).data.toList,
 (ByteArray.mk
 #[104,116,116,112,115]).data.toList,
 (ByteArray.mk #[119,115]).data.toList,
 (ByteArray.mk #[119,115,115]).data.toList,
 (ByteArray.mk #[102,116,112]).data.toList,
 (ByteArray.mk #[120]).data.toList]
 (aD c (6:Int))++
 (ByteArray.mk #[58,47,47,104,58]).data.toList++
 ae (ByteArray.mk #[48,48,48]).data.toList
 (aD b (4:Int))++
 dB
 (ez [(80:Int),(443:Int),(80:Int),(443:Int),(21:Int),(-2:Int)]
 (aD c (6:Int)))++
 (ByteArray.mk #[47,112]).data.toList)).2=
 (8:Int))=
 true→
 True)∧
 k
 (PV.bool
 (bif
 decide
 ((aS
 (cd
 [(ByteArray.mk #[104,116,116,112]).data.toList,
 (ByteArray.mk
 #[104,116,116,112,115]).data.toList,
 (ByteArray.mk #[119,115]).data.toList,
 (ByteArray.mk #[119,115,115]).data.toList,
 (ByteArray.mk #[102,116,112]).data.toList,
 (ByteArray.mk #[120]).data.toList]
 (aD c (6:Int))++
 (ByteArray.mk
 #[58,47,47,104,58]).data.toList++
 ae (ByteArray.mk #[48,48,48]).data.toList
 (aD b (4:Int))++
 dB
 (ez [(80:Int),(443:Int),(80:Int),(443:Int),(21:Int),(-2:Int)]
 (aD c (6:Int)))++
 (ByteArray.mk #[47,112]).data.toList)).2=
 (8:Int))then
 true
 else false)))∧
 (decide
 ((65535:Int)<
 ez [(80:Int),(443:Int),(80:Int),(443:Int),(21:Int),(-2:Int)]
 (aD c (6:Int)))=
 false→
 within (aD c (6:Int))
 (Int.ofNat [(80:Int),(443:Int),(80:Int),(443:Int),(21:Int),(-2:Int)].length)∧
 (decide
 (ez [(80:Int),(443:Int),(80:Int),(443:Int),(21:Int),(-2:Int)]
 (aD c (6:Int))=
 ez [(80:Int),(443:Int),(80:Int),(443:Int),(21:Int),(-2:Int)]
 (aD c (6:Int)))=
 true→
 within (aD c (6:Int))
 (Int.ofNat
 [(ByteArray.mk #[104,116,116,112]).data.toList,
 (ByteArray.mk #[104,116,116,112,115]).data.toList,
 (ByteArray.mk #[119,115]).data.toList,
 (ByteArray.mk #[119,115,115]).data.toList,
 (ByteArray.mk #[102,116,112]).data.toList,
 (ByteArray.mk #[120]).data.toList].length)∧
 List.length
 (cd
 [(ByteArray.mk #[104,116,116,112]).data.toList,
 (ByteArray.mk #[104,116,116,112,115]).data.toList,
 (ByteArray.mk #[119,115]).data.toList,
 (ByteArray.mk #[119,115,115]).data.toList,
 (ByteArray.mk #[102,116,112]).data.toList,
 (ByteArray.mk #[120]).data.toList]
 (aD c (6:Int)))+
 (ByteArray.mk
 #[58,47,47,104,58,47,112]).data.toList.length≤
 Go.Vc.maxLen∧
 (List.length
 (cd
 [(ByteArray.mk #[104,116,116,112]).data.toList,
 (ByteArray.mk
 #[104,116,116,112,115]).data.toList,
 (ByteArray.mk #[119,115]).data.toList,
 (ByteArray.mk #[119,115,115]).data.toList,
 (ByteArray.mk #[102,116,112]).data.toList,
 (ByteArray.mk #[120]).data.toList]
 (aD c (6:Int))++
 (ByteArray.mk
 #[58,47,47,104,58,47,112]).data.toList)).le
 (60000:Nat)∧
 ((bif
 bif
 bif
 decide
 ((aS
 (cd
 [(ByteArray.mk
 #[104,116,116,112]).data.toList,
 (ByteArray.mk
 #[104,116,116,112,115]).data.toList,
 (ByteArray.mk #[119,115]).data.toList,
 (ByteArray.mk #[119,115,115]).data.toList,
 (ByteArray.mk #[102,116,112]).data.toList,
 (ByteArray.mk #[120]).data.toList]
 (aD c (6:Int))++
 (ByteArray.mk
 #[58,47,47,104,58]).data.toList++
 ae
 (ByteArray.mk #[48,48,48]).data.toList
 (aD b (4:Int))++
 dB
 (ez
 [(80:Int),(443:Int),(80:Int),(443:Int),(21:Int),(-2:Int)]
 (aD c (6:Int)))++
 (ByteArray.mk #[47,112]).data.toList)).2=
 (0:Int))then
 decide
 ((aS
 (cd
 [(ByteArray.mk
 #[104,116,116,112]).data.toList,
 (ByteArray.mk
 #[104,116,116,112,115]).data.toList,
 (ByteArray.mk #[119,115]).data.toList,
 (ByteArray.mk #[119,115,115]).data.toList,
 (ByteArray.mk #[102,116,112]).data.toList,
 (ByteArray.mk #[120]).data.toList]
 (aD c (6:Int))++
 (ByteArray.mk
 #[58,47,47,104,58]).data.toList++
 ae
 (ByteArray.mk #[48,48,48]).data.toList
 (aD b (4:Int))++
 dB
 (ez
 [(80:Int),(443:Int),(80:Int),(443:Int),(21:Int),(-2:Int)]
 (aD c (6:Int)))++
 (ByteArray.mk #[47,112]).data.toList)).1.port=
 (-1:Int))
 else false then
 decide
 ((aS
 (cd
 [(ByteArray.mk
 #[104,116,116,112]).data.toList,
 (ByteArray.mk
 #[104,116,116,112,115]).data.toList,
 (ByteArray.mk #[119,115]).data.toList,
 (ByteArray.mk #[119,115,115]).data.toList,
 (ByteArray.mk #[102,116,112]).data.toList,
 (ByteArray.mk #[120]).data.toList]
 (aD c (6:Int))++
 (ByteArray.mk
 #[58,47,47,104,58,47,112]).data.toList)).2=
 (0:Int))
 else false then
 decide
 ((aS
 (cd
 [(ByteArray.mk #[104,116,116,112]).data.toList,
 (ByteArray.mk
 #[104,116,116,112,115]).data.toList,
 (ByteArray.mk #[119,115]).data.toList,
 (ByteArray.mk #[119,115,115]).data.toList,
 (ByteArray.mk #[102,116,112]).data.toList,
 (ByteArray.mk #[120]).data.toList]
 (aD c (6:Int))++
 (ByteArray.mk
 #[58,47,47,104,58,47,112]).data.toList)).1.port=
 (-1:Int))
 else false)=
 true→
 True)∧
 k
 (PV.bool
 (bif
 bif
 bif
 bif
 decide
 ((aS
 (cd
 [(ByteArray.mk
 #[104,116,116,112]).data.toList,
 (ByteArray.mk
 #[104,116,116,112,115]).data.toList,
 (ByteArray.mk #[119,115]).data.toList,
 (ByteArray.mk
 #[119,115,115]).data.toList,
 (ByteArray.mk
 #[102,116,112]).data.toList,
 (ByteArray.mk #[120]).data.toList]
 (aD c (6:Int))++
 (ByteArray.mk
 #[58,47,47,104,58]).data.toList++
 ae
 (ByteArray.mk #[48,48,48]).data.toList
 (aD b (4:Int))++
 dB
 (ez
 [(80:Int),(443:Int),(80:Int),(443:Int),(21:Int),(-2:Int)]
 (aD c (6:Int)))++
 (ByteArray.mk #[47,112]).data.toList)).2=
 (0:Int))then
 decide
 ((aS
 (cd
 [(ByteArray.mk
 #[104,116,116,112]).data.toList,
 (ByteArray.mk
 #[104,116,116,112,115]).data.toList,
 (ByteArray.mk #[119,115]).data.toList,
 (ByteArray.mk
 #[119,115,115]).data.toList,
 (ByteArray.mk
 #[102,116,112]).data.toList,
 (ByteArray.mk #[120]).data.toList]
 (aD c (6:Int))++
 (ByteArray.mk
 #[58,47,47,104,58]).data.toList++
 ae
 (ByteArray.mk #[48,48,48]).data.toList
 (aD b (4:Int))++
 dB
 (ez
 [(80:Int),(443:Int),(80:Int),(443:Int),(21:Int),(-2:Int)]
 (aD c (6:Int)))++
 (ByteArray.mk #[47,112]).data.toList)).1.port=
 (-1:Int))
 else false then
 decide
 ((aS
 (cd
 [(ByteArray.mk
 #[104,116,116,112]).data.toList,
 (ByteArray.mk
 #[104,116,116,112,115]).data.toList,
 (ByteArray.mk #[119,115]).data.toList,
 (ByteArray.mk #[119,115,115]).data.toList,
 (ByteArray.mk #[102,116,112]).data.toList,
 (ByteArray.mk #[120]).data.toList]
 (aD c (6:Int))++
 (ByteArray.mk
 #[58,47,47,104,58,47,112]).data.toList)).2=
 (0:Int))
 else false then
 decide
 ((aS
 (cd
 [(ByteArray.mk
 #[104,116,116,112]).data.toList,
 (ByteArray.mk
 #[104,116,116,112,115]).data.toList,
 (ByteArray.mk #[119,115]).data.toList,
 (ByteArray.mk #[119,115,115]).data.toList,
 (ByteArray.mk #[102,116,112]).data.toList,
 (ByteArray.mk #[120]).data.toList]
 (aD c (6:Int))++
 (ByteArray.mk
 #[58,47,47,104,58,47,112]).data.toList)).1.port=
 (-1:Int))
 else false then
 true
 else false)))∧
 (decide
 (ez [(80:Int),(443:Int),(80:Int),(443:Int),(21:Int),(-2:Int)]
 (aD c (6:Int))=
 ez [(80:Int),(443:Int),(80:Int),(443:Int),(21:Int),(-2:Int)]
 (aD c (6:Int)))=
 false→
 within (aD c (6:Int))
 (Int.ofNat
 [(ByteArray.mk #[104,116,116,112]).data.toList,
 (ByteArray.mk #[104,116,116,112,115]).data.toList,
 (ByteArray.mk #[119,115]).data.toList,
 (ByteArray.mk #[119,115,115]).data.toList,
 (ByteArray.mk #[102,116,112]).data.toList,
 (ByteArray.mk #[120]).data.toList].length)∧
 List.length
 (cd
 [(ByteArray.mk #[104,116,116,112]).data.toList,
 (ByteArray.mk #[104,116,116,112,115]).data.toList,
 (ByteArray.mk #[119,115]).data.toList,
 (ByteArray.mk #[119,115,115]).data.toList,
 (ByteArray.mk #[102,116,112]).data.toList,
 (ByteArray.mk #[120]).data.toList]
 (aD c (6:Int)))+
 (ByteArray.mk
 #[58,47,47,104,58,47,112]).data.toList.length≤
 Go.Vc.maxLen∧
 (List.length
 (cd
 [(ByteArray.mk #[104,116,116,112]).data.toList,
 (ByteArray.mk
 #[104,116,116,112,115]).data.toList,
 (ByteArray.mk #[119,115]).data.toList,
 (ByteArray.mk #[119,115,115]).data.toList,
 (ByteArray.mk #[102,116,112]).data.toList,
 (ByteArray.mk #[120]).data.toList]
 (aD c (6:Int))++
 (ByteArray.mk
 #[58,47,47,104,58,47,112]).data.toList)).le
 (60000:Nat)∧
 ((bif
 bif
 bif
 decide
 ((aS
 (cd
 [(ByteArray.mk
 #[104,116,116,112]).data.toList,
 (ByteArray.mk
 #[104,116,116,112,115]).data.toList,
 (ByteArray.mk #[119,115]).data.toList,
 (ByteArray.mk #[119,115,115]).data.toList,
 (ByteArray.mk #[102,116,112]).data.toList,
 (ByteArray.mk #[120]).data.toList]
 (aD c (6:Int))++
 (ByteArray.mk
 #[58,47,47,104,58]).data.toList++
 ae
 (ByteArray.mk #[48,48,48]).data.toList
 (aD b (4:Int))++
 dB
 (ez
 [(80:Int),(443:Int),(80:Int),(443:Int),(21:Int),(-2:Int)]
 (aD c (6:Int)))++
 (ByteArray.mk #[47,112]).data.toList)).2=
 (0:Int))then
 decide
 ((aS
 (cd
 [(ByteArray.mk
 #[104,116,116,112]).data.toList,
 (ByteArray.mk
 #[104,116,116,112,115]).data.toList,
 (ByteArray.mk #[119,115]).data.toList,
 (ByteArray.mk #[119,115,115]).data.toList,
 (ByteArray.mk #[102,116,112]).data.toList,
 (ByteArray.mk #[120]).data.toList]
 (aD c (6:Int))++
 (ByteArray.mk
 #[58,47,47,104,58]).data.toList++
 ae
 (ByteArray.mk #[48,48,48]).data.toList
 (aD b (4:Int))++
 dB
 (ez
 [(80:Int),(443:Int),(80:Int),(443:Int),(21:Int),(-2:Int)]
 (aD c (6:Int)))++
 (ByteArray.mk #[47,112]).data.toList)).1.port=
 ez [(80:Int),(443:Int),(80:Int),(443:Int),(21:Int),(-2:Int)]
 (aD c (6:Int)))
 else false then
 decide
 ((aS
 (cd
 [(ByteArray.mk
 #[104,116,116,112]).data.toList,
 (ByteArray.mk
 #[104,116,116,112,115]).data.toList,
 (ByteArray.mk #[119,115]).data.toList,
 (ByteArray.mk #[119,115,115]).data.toList,
 (ByteArray.mk #[102,116,112]).data.toList,
 (ByteArray.mk #[120]).data.toList]
 (aD c (6:Int))++
 (ByteArray.mk
 #[58,47,47,104,58,47,112]).data.toList)).2=
 (0:Int))
 else false then
 decide
 ((aS
 (cd
 [(ByteArray.mk #[104,116,116,112]).data.toList,
 (ByteArray.mk
 #[104,116,116,112,115]).data.toList,
 (ByteArray.mk #[119,115]).data.toList,
 (ByteArray.mk #[119,115,115]).data.toList,
 (ByteArray.mk #[102,116,112]).data.toList,
 (ByteArray.mk #[120]).data.toList]
 (aD c (6:Int))++
 (ByteArray.mk
 #[58,47,47,104,58,47,112]).data.toList)).1.port=
 (-1:Int))
 else false)=
 true→
 True)∧
 k
 (PV.bool
 (bif
 bif
 bif
 bif
 decide
 ((aS
 (cd
 [(ByteArray.mk
 #[104,116,116,112]).data.toList,
 (ByteArray.mk
 #[104,116,116,112,115]).data.toList,
 (ByteArray.mk #[119,115]).data.toList,
 (ByteArray.mk
 #[119,115,115]).data.toList,
 (ByteArray.mk
 #[102,116,112]).data.toList,
 (ByteArray.mk #[120]).data.toList]
 (aD c (6:Int))++
 (ByteArray.mk
 #[58,47,47,104,58]).data.toList++
 ae
 (ByteArray.mk #[48,48,48]).data.toList
 (aD b (4:Int))++
 dB
 (ez
 [(80:Int),(443:Int),(80:Int),(443:Int),(21:Int),(-2:Int)]
 (aD c (6:Int)))++
 (ByteArray.mk #[47,112]).data.toList)).2=
 (0:Int))then
 decide
 ((aS
 (cd
 [(ByteArray.mk
 #[104,116,116,112]).data.toList,
 (ByteArray.mk
 #[104,116,116,112,115]).data.toList,
 (ByteArray.mk #[119,115]).data.toList,
 (ByteArray.mk
 #[119,115,115]).data.toList,
 (ByteArray.mk
 #[102,116,112]).data.toList,
 (ByteArray.mk #[120]).data.toList]
 (aD c (6:Int))++
 (ByteArray.mk
 #[58,47,47,104,58]).data.toList++
 ae
 (ByteArray.mk #[48,48,48]).data.toList
 (aD b (4:Int))++
 dB
 (ez
 [(80:Int),(443:Int),(80:Int),(443:Int),(21:Int),(-2:Int)]
 (aD c (6:Int)))++
 (ByteArray.mk #[47,112]).data.toList)).1.port=
 ez [(80:Int),(443:Int),(80:Int),(443:Int),(21:Int),(-2:Int)]
 (aD c (6:Int)))
 else false then
 decide
 ((aS
 (cd
 [(ByteArray.mk
 #[104,116,116,112]).data.toList,
 (ByteArray.mk
 #[104,116,116,112,115]).data.toList,
 (ByteArray.mk #[119,115]).data.toList,
 (ByteArray.mk #[119,115,115]).data.toList,
 (ByteArray.mk #[102,116,112]).data.toList,
 (ByteArray.mk #[120]).data.toList]
 (aD c (6:Int))++
 (ByteArray.mk
 #[58,47,47,104,58,47,112]).data.toList)).2=
 (0:Int))
 else false then
 decide
 ((aS
 (cd
 [(ByteArray.mk
 #[104,116,116,112]).data.toList,
 (ByteArray.mk
 #[104,116,116,112,115]).data.toList,
 (ByteArray.mk #[119,115]).data.toList,
 (ByteArray.mk #[119,115,115]).data.toList,
 (ByteArray.mk #[102,116,112]).data.toList,
 (ByteArray.mk #[120]).data.toList]
 (aD c (6:Int))++
 (ByteArray.mk
 #[58,47,47,104,58,47,112]).data.toList)).1.port=
 (-1:Int))
 else false then
 true
 else false)))))∧
 ((bif decide (aD b (5:Int)=(4:Int))then
 decide
 ((0:Int)<
 ez [(80:Int),(443:Int),(80:Int),(443:Int),(21:Int),(-2:Int)]
 (aD c (6:Int)))
 else false)=
 false→
 within (aD c (6:Int))
 (Int.ofNat
 [(ByteArray.mk #[104,116,116,112]).data.toList,
 (ByteArray.mk #[104,116,116,112,115]).data.toList,
 (ByteArray.mk #[119,115]).data.toList,(ByteArray.mk #[119,115,115]).data.toList,
 (ByteArray.mk #[102,116,112]).data.toList,(ByteArray.mk #[120]).data.toList].length)∧
 List.length
 (cd
 [(ByteArray.mk #[104,116,116,112]).data.toList,
 (ByteArray.mk #[104,116,116,112,115]).data.toList,
 (ByteArray.mk #[119,115]).data.toList,(ByteArray.mk #[119,115,115]).data.toList,
 (ByteArray.mk #[102,116,112]).data.toList,(ByteArray.mk #[120]).data.toList]
 (aD c (6:Int)))+
 (ByteArray.mk #[58,47,47,104,58]).data.toList.length≤
 Go.Vc.maxLen∧
 ((-9223372036854775808:Int)≤b∧b≤(9223372036854775807:Int)∧(1:Int)≤(4:Int)∧(4:Int)≤(4611686018427387904:Int))∧
 upto (0:Int) (aD b (4:Int))
 (ak (ByteArray.mk #[48,48,48]).data.toList)∧
 List.length
 (cd
 [(ByteArray.mk #[104,116,116,112]).data.toList,
 (ByteArray.mk #[104,116,116,112,115]).data.toList,
 (ByteArray.mk #[119,115]).data.toList,
 (ByteArray.mk #[119,115,115]).data.toList,
 (ByteArray.mk #[102,116,112]).data.toList,(ByteArray.mk #[120]).data.toList]
 (aD c (6:Int))++
 (ByteArray.mk #[58,47,47,104,58]).data.toList)+
 (ae (ByteArray.mk #[48,48,48]).data.toList
 (aD b (4:Int))).length≤
 Go.Vc.maxLen∧
 ((0:Int)≤aD a (70000:Int)∧
 aD a (70000:Int)≤(1000000000:Int))∧
 List.length
 (cd
 [(ByteArray.mk #[104,116,116,112]).data.toList,
 (ByteArray.mk #[104,116,116,112,115]).data.toList,
 (ByteArray.mk #[119,115]).data.toList,
 (ByteArray.mk #[119,115,115]).data.toList,
 (ByteArray.mk #[102,116,112]).data.toList,(ByteArray.mk #[120]).data.toList]
 (aD c (6:Int))++
 (ByteArray.mk #[58,47,47,104,58]).data.toList++
 ae (ByteArray.mk #[48,48,48]).data.toList
 (aD b (4:Int)))+
 List.length (dB (aD a (70000:Int)))≤
 Go.Vc.maxLen∧
 List.length
 (cd
 [(ByteArray.mk #[104,116,116,112]).data.toList,
 (ByteArray.mk #[104,116,116,112,115]).data.toList,
 (ByteArray.mk #[119,115]).data.toList,
 (ByteArray.mk #[119,115,115]).data.toList,
 (ByteArray.mk #[102,116,112]).data.toList,
 (ByteArray.mk #[120]).data.toList]
 (aD c (6:Int))++
 (ByteArray.mk #[58,47,47,104,58]).data.toList++
 ae (ByteArray.mk #[48,48,48]).data.toList
 (aD b (4:Int))++
 dB (aD a (70000:Int)))+
 (ByteArray.mk #[47,112]).data.toList.length≤
 Go.Vc.maxLen∧
 (List.length
 (cd
 [(ByteArray.mk #[104,116,116,112]).data.toList,
 (ByteArray.mk #[104,116,116,112,115]).data.toList,
 (ByteArray.mk #[119,115]).data.toList,
 (ByteArray.mk #[119,115,115]).data.toList,
 (ByteArray.mk #[102,116,112]).data.toList,
 (ByteArray.mk #[120]).data.toList]
 (aD c (6:Int))++
 (ByteArray.mk #[58,47,47,104,58]).data.toList++
 ae (ByteArray.mk #[48,48,48]).data.toList
 (aD b (4:Int))++
 dB (aD a (70000:Int))++
 (ByteArray.mk #[47,112]).data.toList)).le
 (60000:Nat)∧
 (decide ((65535:Int)<aD a (70000:Int))=true→
 (decide
 ((aS
 (cd
 [(ByteArray.mk #[104,116,116,112]).data.toList,
 (ByteArray.mk
 #[104,116,116,112,115]).data.toList,
 (ByteArray.mk #[119,115]).data.toList,
 (ByteArray.mk #[119,115,115]).data.toList,
 (ByteArray.mk #[102,116,112]).data.toList,
 (ByteArray.mk #[120]).data.toList]
 (aD c (6:Int))++
 (ByteArray.mk #[58,47,47,104,58]).data.toList++
 ae (ByteArray.mk #[48,48,48]).data.toList
 (aD b (4:Int))++
 dB (aD a (70000:Int))++
 (ByteArray.mk #[47,112]).data.toList)).2=
 (8:Int))=
 true→
 True)∧
 k
 (PV.bool
 (bif
 decide
 ((aS
 (cd
 [(ByteArray.mk #[104,116,116,112]).data.toList,
 (ByteArray.mk
 #[104,116,116,112,115]).data.toList,
 (ByteArray.mk #[119,115]).data.toList,
 (ByteArray.mk #[119,115,115]).data.toList,
 (ByteArray.mk #[102,116,112]).data.toList,
 (ByteArray.mk #[120]).data.toList]
 (aD c (6:Int))++
 (ByteArray.mk
 #[58,47,47,104,58]).data.toList++
 ae (ByteArray.mk #[48,48,48]).data.toList
 (aD b (4:Int))++
 dB (aD a (70000:Int))++
 (ByteArray.mk #[47,112]).data.toList)).2=
 (8:Int))then
 true
 else false)))∧
 (decide ((65535:Int)<aD a (70000:Int))=false→
 within (aD c (6:Int))
 (Int.ofNat [(80:Int),(443:Int),(80:Int),(443:Int),(21:Int),(-2:Int)].length)∧
 (decide
 (aD a (70000:Int)=
 ez [(80:Int),(443:Int),(80:Int),(443:Int),(21:Int),(-2:Int)]
 (aD c (6:Int)))=
 true→
 within (aD c (6:Int))
 (Int.ofNat
 [(ByteArray.mk #[104,116,116,112]).data.toList,
 (ByteArray.mk #[104,116,116,112,115]).data.toList,
 (ByteArray.mk #[119,115]).data.toList,
 (ByteArray.mk #[119,115,115]).data.toList,
 (ByteArray.mk #[102,116,112]).data.toList,
 (ByteArray.mk #[120]).data.toList].length)∧
 List.length
 (cd
 [(ByteArray.mk #[104,116,116,112]).data.toList,
 (ByteArray.mk #[104,116,116,112,115]).data.toList,
 (ByteArray.mk #[119,115]).data.toList,
 (ByteArray.mk #[119,115,115]).data.toList,
 (ByteArray.mk #[102,116,112]).data.toList,
 (ByteArray.mk #[120]).data.toList]
 (aD c (6:Int)))+
 (ByteArray.mk
 #[58,47,47,104,58,47,112]).data.toList.length≤
 Go.Vc.maxLen∧
 (List.length
 (cd
 [(ByteArray.mk #[104,116,116,112]).data.toList,
 (ByteArray.mk
 #[104,116,116,112,115]).data.toList,
 (ByteArray.mk #[119,115]).data.toList,
 (ByteArray.mk #[119,115,115]).data.toList,
 (ByteArray.mk #[102,116,112]).data.toList,
 (ByteArray.mk #[120]).data.toList]
 (aD c (6:Int))++
 (ByteArray.mk
 #[58,47,47,104,58,47,112]).data.toList)).le
 (60000:Nat)∧
 ((bif
 bif
 bif
 decide
 ((aS
 (cd
 [(ByteArray.mk
 #[104,116,116,112]).data.toList,
 (ByteArray.mk
 #[104,116,116,112,115]).data.toList,
 (ByteArray.mk #[119,115]).data.toList,
 (ByteArray.mk #[119,115,115]).data.toList,
 (ByteArray.mk #[102,116,112]).data.toList,
 (ByteArray.mk #[120]).data.toList]
 (aD c (6:Int))++
 (ByteArray.mk
 #[58,47,47,104,58]).data.toList++
 ae (ByteArray.mk #[48,48,48]).data.toList
 (aD b (4:Int))++
 dB
 (aD a (70000:Int))++
 (ByteArray.mk #[47,112]).data.toList)).2=
 (0:Int))then
 decide
 ((aS
 (cd
 [(ByteArray.mk
 #[104,116,116,112]).data.toList,
 (ByteArray.mk
 #[104,116,116,112,115]).data.toList,
 (ByteArray.mk #[119,115]).data.toList,
 (ByteArray.mk #[119,115,115]).data.toList,
 (ByteArray.mk #[102,116,112]).data.toList,
 (ByteArray.mk #[120]).data.toList]
 (aD c (6:Int))++
 (ByteArray.mk
 #[58,47,47,104,58]).data.toList++
 ae (ByteArray.mk #[48,48,48]).data.toList
 (aD b (4:Int))++
 dB
 (aD a (70000:Int))++
 (ByteArray.mk #[47,112]).data.toList)).1.port=
 (-1:Int))
 else false then
 decide
 ((aS
 (cd
 [(ByteArray.mk #[104,116,116,112]).data.toList,
 (ByteArray.mk
 #[104,116,116,112,115]).data.toList,
 (ByteArray.mk #[119,115]).data.toList,
 (ByteArray.mk #[119,115,115]).data.toList,
 (ByteArray.mk #[102,116,112]).data.toList,
 (ByteArray.mk #[120]).data.toList]
 (aD c (6:Int))++
 (ByteArray.mk
 #[58,47,47,104,58,47,112]).data.toList)).2=
 (0:Int))
 else false then
 decide
 ((aS
 (cd
 [(ByteArray.mk #[104,116,116,112]).data.toList,
 (ByteArray.mk
 #[104,116,116,112,115]).data.toList,
 (ByteArray.mk #[119,115]).data.toList,
 (ByteArray.mk #[119,115,115]).data.toList,
 (ByteArray.mk #[102,116,112]).data.toList,
 (ByteArray.mk #[120]).data.toList]
 (aD c (6:Int))++
 (ByteArray.mk
 #[58,47,47,104,58,47,112]).data.toList)).1.port=
 (-1:Int))
 else false)=
 true→
 True)∧
 k
 (PV.bool
 (bif
 bif
 bif
 bif
 decide
 ((aS
 (cd
 [(ByteArray.mk
 #[104,116,116,112]).data.toList,
 (ByteArray.mk
 #[104,116,116,112,115]).data.toList,
 (ByteArray.mk #[119,115]).data.toList,
 (ByteArray.mk
 #[119,115,115]).data.toList,
 (ByteArray.mk
 #[102,116,112]).data.toList,
 (ByteArray.mk #[120]).data.toList]
 (aD c (6:Int))++
 (ByteArray.mk
 #[58,47,47,104,58]).data.toList++
 ae
 (ByteArray.mk #[48,48,48]).data.toList
 (aD b (4:Int))++
 dB
 (aD a (70000:Int))++
 (ByteArray.mk #[47,112]).data.toList)).2=
 (0:Int))then
 decide
 ((aS
 (cd
 [(ByteArray.mk
 #[104,116,116,112]).data.toList,
 (ByteArray.mk
 #[104,116,116,112,115]).data.toList,
 (ByteArray.mk #[119,115]).data.toList,
 (ByteArray.mk
 #[119,115,115]).data.toList,
 (ByteArray.mk
 #[102,116,112]).data.toList,
 (ByteArray.mk #[120]).data.toList]
 (aD c (6:Int))++
 (ByteArray.mk
 #[58,47,47,104,58]).data.toList++
 ae
 (ByteArray.mk #[48,48,48]).data.toList
 (aD b (4:Int))++
 dB
 (aD a (70000:Int))++
 (ByteArray.mk #[47,112]).data.toList)).1.port=
 (-1:Int))
 else false then
 decide
 ((aS
 (cd
 [(ByteArray.mk
 #[104,116,116,112]).data.toList,
 (ByteArray.mk
 #[104,116,116,112,115]).data.toList,
 (ByteArray.mk #[119,115]).data.toList,
 (ByteArray.mk #[119,115,115]).data.toList,
 (ByteArray.mk #[102,116,112]).data.toList,
 (ByteArray.mk #[120]).data.toList]
 (aD c (6:Int))++
 (ByteArray.mk
 #[58,47,47,104,58,47,112]).data.toList)).2=
 (0:Int))
 else false then
 decide
 ((aS
 (cd
 [(ByteArray.mk
 #[104,116,116,112]).data.toList,
 (ByteArray.mk
 #[104,116,116,112,115]).data.toList,
 (ByteArray.mk #[119,115]).data.toList,
 (ByteArray.mk #[119,115,115]).data.toList,
 (ByteArray.mk #[102,116,112]).data.toList,
 (ByteArray.mk #[120]).data.toList]
 (aD c (6:Int))++
 (ByteArray.mk
 #[58,47,47,104,58,47,112]).data.toList)).1.port=
 (-1:Int))
 else false then
 true
 else false)))∧
 (decide
 (aD a (70000:Int)=
 ez [(80:Int),(443:Int),(80:Int),(443:Int),(21:Int),(-2:Int)]
 (aD c (6:Int)))=
 false→
 within (aD c (6:Int))
 (Int.ofNat
 [(ByteArray.mk #[104,116,116,112]).data.toList,
 (ByteArray.mk #[104,116,116,112,115]).data.toList,
 (ByteArray.mk #[119,115]).data.toList,
 (ByteArray.mk #[119,115,115]).data.toList,
 (ByteArray.mk #[102,116,112]).data.toList,
 (ByteArray.mk #[120]).data.toList].length)∧
 List.length
 (cd
 [(ByteArray.mk #[104,116,116,112]).data.toList,
 (ByteArray.mk #[104,116,116,112,115]).data.toList,
 (ByteArray.mk #[119,115]).data.toList,
 (ByteArray.mk #[119,115,115]).data.toList,
 (ByteArray.mk #[102,116,112]).data.toList,
 (ByteArray.mk #[120]).data.toList]
 (aD c (6:Int)))+
 (ByteArray.mk
 #[58,47,47,104,58,47,112]).data.toList.length≤
 Go.Vc.maxLen∧
 (List.length
 (cd
 [(ByteArray.mk #[104,116,116,112]).data.toList,
 (ByteArray.mk
 #[104,116,116,112,115]).data.toList,
 (ByteArray.mk #[119,115]).data.toList,
 (ByteArray.mk #[119,115,115]).data.toList,
 (ByteArray.mk #[102,116,112]).data.toList,
 (ByteArray.mk #[120]).data.toList]
 (aD c (6:Int))++
 (ByteArray.mk
 #[58,47,47,104,58,47,112]).data.toList)).le
 (60000:Nat)∧
 ((bif
 bif
 bif
 decide
 ((aS
 (cd
 [(ByteArray.mk
 #[104,116,116,112]).data.toList,
 (ByteArray.mk
 #[104,116,116,112,115]).data.toList,
 (ByteArray.mk #[119,115]).data.toList,
 (ByteArray.mk #[119,115,115]).data.toList,
 (ByteArray.mk #[102,116,112]).data.toList,
 (ByteArray.mk #[120]).data.toList]
 (aD c (6:Int))++
 (ByteArray.mk
 #[58,47,47,104,58]).data.toList++
 ae (ByteArray.mk #[48,48,48]).data.toList
 (aD b (4:Int))++
 dB
 (aD a (70000:Int))++
 (ByteArray.mk #[47,112]).data.toList)).2=
 (0:Int))then
 decide
 ((aS
 (cd
 [(ByteArray.mk
 #[104,116,116,112]).data.toList,
 (ByteArray.mk
 #[104,116,116,112,115]).data.toList,
 (ByteArray.mk #[119,115]).data.toList,
 (ByteArray.mk #[119,115,115]).data.toList,
 (ByteArray.mk #[102,116,112]).data.toList,
 (ByteArray.mk #[120]).data.toList]
 (aD c (6:Int))++
 (ByteArray.mk
 #[58,47,47,104,58]).data.toList++
 ae (ByteArray.mk #[48,48,48]).data.toList
 (aD b (4:Int))++
 dB
 (aD a (70000:Int))++
 (ByteArray.mk #[47,112]).data.toList)).1.port=
 aD a (70000:Int))
 else false then
 decide
 ((aS
 (cd
 [(ByteArray.mk #[104,116,116,112]).data.toList,
 (ByteArray.mk
 #[104,116,116,112,115]).data.toList,
 (ByteArray.mk #[119,115]).data.toList,
 (ByteArray.mk #[119,115,115]).data.toList,
 (ByteArray.mk #[102,116,112]).data.toList,
 (ByteArray.mk #[120]).data.toList]
 (aD c (6:Int))++
 (ByteArray.mk
 #[58,47,47,104,58,47,112]).data.toList)).2=
 (0:Int))
 else false then
 decide
 ((aS
 (cd
 [(ByteArray.mk #[104,116,116,112]).data.toList,
 (ByteArray.mk
 #[104,116,116,112,115]).data.toList,
 (ByteArray.mk #[119,115]).data.toList,
 (ByteArray.mk #[119,115,115]).data.toList,
 (ByteArray.mk #[102,116,112]).data.toList,
 (ByteArray.mk #[120]).data.toList]
 (aD c (6:Int))++
 (ByteArray.mk
 #[58,47,47,104,58,47,112]).data.toList)).1.port=
 (-1:Int))
 else false)=
 true→
 True)∧
 k
 (PV.bool
 (bif
 bif
 bif
 bif
 decide
 ((aS
 (cd
 [(ByteArray.mk
 #[104,116,116,112]).data.toList,
 (ByteArray.mk
 #[104,116,116,112,115]).data.toList,
 (ByteArray.mk #[119,115]).data.toList,
 (ByteArray.mk
 #[119,115,115]).data.toList,
 (ByteArray.mk
 #[102,116,112]).data.toList,
 (ByteArray.mk #[120]).data.toList]
 (aD c (6:Int))++
 (ByteArray.mk
 #[58,47,47,104,58]).data.toList++
 ae
 (ByteArray.mk #[48,48,48]).data.toList
 (aD b (4:Int))++
 dB
 (aD a (70000:Int))++
 (ByteArray.mk #[47,112]).data.toList)).2=
 (0:Int))then
 decide
 ((aS
 (cd
 [(ByteArray.mk
 #[104,116,116,112]).data.toList,
 (ByteArray.mk
 #[104,116,116,112,115]).data.toList,
 (ByteArray.mk #[119,115]).data.toList,
 (ByteArray.mk
 #[119,115,115]).data.toList,
 (ByteArray.mk
 #[102,116,112]).data.toList,
 (ByteArray.mk #[120]).data.toList]
 (aD c (6:Int))++
 (ByteArray.mk
 #[58,47,47,104,58]).data.toList++
 ae
 (ByteArray.mk #[48,48,48]).data.toList
 (aD b (4:Int))++
 dB
 (aD a (70000:Int))++
 (ByteArray.mk #[47,112]).data.toList)).1.port=
 aD a (70000:Int))
 else false then
 decide
 ((aS
 (cd
 [(ByteArray.mk
 #[104,116,116,112]).data.toList,
 (ByteArray.mk
 #[104,116,116,112,115]).data.toList,
 (ByteArray.mk #[119,115]).data.toList,
 (ByteArray.mk #[119,115,115]).data.toList,
 (ByteArray.mk #[102,116,112]).data.toList,
 (ByteArray.mk #[120]).data.toList]
 (aD c (6:Int))++
 (ByteArray.mk
 #[58,47,47,104,58,47,112]).data.toList)).2=
 (0:Int))
 else false then
 decide
 ((aS
 (cd
 [(ByteArray.mk
 #[104,116,116,112]).data.toList,
 (ByteArray.mk
 #[104,116,116,112,115]).data.toList,
 (ByteArray.mk #[119,115]).data.toList,
 (ByteArray.mk #[119,115,115]).data.toList,
 (ByteArray.mk #[102,116,112]).data.toList,
 (ByteArray.mk #[120]).data.toList]
 (aD c (6:Int))++
 (ByteArray.mk
 #[58,47,47,104,58,47,112]).data.toList)).1.port=
 (-1:Int))
 else false then
 true
 else false)))))):=by kernel_rfl
attribute [local irreducible] Go.Vc.cD
theorem Gt(a b c:Int):ag Tryz.prog ay 7 [.int .i64 a,.int .i64 b,.int .i64 c] ⟨-9223372036854775808≤a∧a≤9223372036854775807∧-9223372036854775808≤b∧b≤9223372036854775807∧-9223372036854775808≤c∧c≤9223372036854775807,.bool true⟩:=cl (by kernel_rfl) Au (H:=BI a b c) (fuel:=1000) Tryz.func7 (by kernel_rfl) fun hpre=>(Gs a b c _).mpr (by
 obtain ⟨a0,a1,b0,b1,c0,c1⟩:=hpre
 have hK:=o5 c 6 (by omega)
 have hZ:=o5 b 4 (by omega)
 have hA:=o5 a 70000 (by omega)
 have hSO:DD (cd [(ByteArray.mk #[104,116,116,112]).data.toList,(ByteArray.mk #[104,116,116,112,115]).data.toList,(ByteArray.mk #[119,115]).data.toList,(ByteArray.mk #[119,115,115]).data.toList,(ByteArray.mk #[102,116,112]).data.toList,(ByteArray.mk #[120]).data.toList] (aD c (6:Int))) (ez [(80:Int),(443:Int),(80:Int),(443:Int),(21:Int),(-2:Int)] (aD c (6:Int))):=by
  generalize aD c 6=K at *
  have:K=0∨K=1∨K=2∨K=3∨K=4∨K=5:=by omega
  rcases this with rfl|rfl|rfl|rfl|rfl|rfl
  ·exact .inl ⟨rfl,rfl⟩
  ·exact .inr (.inl ⟨rfl,rfl⟩)
  ·exact .inr (.inr (.inl ⟨rfl,rfl⟩))
  ·exact .inr (.inr (.inr (.inl ⟨rfl,rfl⟩)))
  ·exact .inr (.inr (.inr (.inr (.inl ⟨rfl,rfl⟩))))
  ·exact .inr (.inr (.inr (.inr (.inr ⟨rfl,rfl⟩))))
 have hKL:within (aD c (6:Int)) (Int.ofNat [(ByteArray.mk #[104,116,116,112]).data.toList,(ByteArray.mk #[104,116,116,112,115]).data.toList,(ByteArray.mk #[119,115]).data.toList,(ByteArray.mk #[119,115,115]).data.toList,(ByteArray.mk #[102,116,112]).data.toList,(ByteArray.mk #[120]).data.toList].length):=hK
 have hKO:within (aD c (6:Int)) (Int.ofNat [(80:Int),(443:Int),(80:Int),(443:Int),(21:Int),(-2:Int)].length):=hK
 have hT:∃z:Nat,z≤3∧ae (ByteArray.mk #[48,48,48]).data.toList (aD b (4:Int))=List.replicate z 48:=by
  generalize aD b 4=Z at *
  have:Z=0∨Z=1∨Z=2∨Z=3:=by omega
  rcases this with rfl|rfl|rfl|rfl
  ·exact ⟨0,by omega,rfl⟩
  ·exact ⟨1,by omega,rfl⟩
  ·exact ⟨2,by omega,rfl⟩
  ·exact ⟨3,by omega,rfl⟩
 have hZu:upto (0:Int) (aD b (4:Int)) (ak (ByteArray.mk #[48,48,48]).data.toList):=⟨Int.le_refl _,hZ.1,show aD b 4≤3 by omega⟩
 generalize cd [(ByteArray.mk #[104,116,116,112]).data.toList,(ByteArray.mk #[104,116,116,112,115]).data.toList,(ByteArray.mk #[119,115]).data.toList,(ByteArray.mk #[119,115,115]).data.toList,(ByteArray.mk #[102,116,112]).data.toList,(ByteArray.mk #[120]).data.toList] (aD c (6:Int))=S at *
 generalize ez [(80:Int),(443:Int),(80:Int),(443:Int),(21:Int),(-2:Int)] (aD c (6:Int))=O at *
 generalize ae (ByteArray.mk #[48,48,48]).data.toList (aD b (4:Int))=T0 at *
 obtain ⟨z,hz3,rfl⟩:=hT
 have hSl:S.length≤5:=by
  rcases hSO with⟨rfl,-⟩|⟨rfl,-⟩|⟨rfl,-⟩|⟨rfl,-⟩|⟨rfl,-⟩|⟨rfl,-⟩<;>decide
 have hO:O≤443:=by
  rcases hSO with⟨-,rfl⟩|⟨-,rfl⟩|⟨-,rfl⟩|⟨-,rfl⟩|⟨-,rfl⟩|⟨-,rfl⟩<;>decide
 have l1:((ByteArray.mk #[58,47,47,104,58]).data.toList).length=5:=rfl
 have l2:((ByteArray.mk #[47,112]).data.toList).length=2:=rfl
 have l3:((ByteArray.mk #[58,47,47,104,58,47,112]).data.toList).length=7:=rfl
 have lz:(List.replicate z (48:UInt8)).length=z:=List.length_replicate
 have mx:∀n:Nat,n≤1000→n≤Go.Vc.maxLen:=fun n h=>Nat.le_trans h (by decide)
 obtain ⟨g1,g2⟩:=Ao hSO
 have g1:(aS (S++(ByteArray.mk #[58,47,47,104,58,47,112]).data.toList)).2=0:=g1
 have g2:(aS (S++(ByteArray.mk #[58,47,47,104,58,47,112]).data.toList)).1.port=-1:=g2
 have G1:List.length S+((ByteArray.mk #[58,47,47,104,58,47,112]).data.toList).length≤Go.Vc.maxLen:=mx _ (by omega)
 have G2:(List.length (S++(ByteArray.mk #[58,47,47,104,58,47,112]).data.toList)).le 60000:=by
  show List.length (S++(ByteArray.mk #[58,47,47,104,58,47,112]).data.toList)≤60000
  rw [List.length_append];omega
 have half:∀(N:Int) (u:Nat),N=u→u≤70000→
  (List.length S+((ByteArray.mk #[58,47,47,104,58]).data.toList).length≤Go.Vc.maxLen∧List.length (S++(ByteArray.mk #[58,47,47,104,58]).data.toList)+(List.replicate z (48:UInt8)).length≤Go.Vc.maxLen∧List.length (S++(ByteArray.mk #[58,47,47,104,58]).data.toList++List.replicate z 48)+List.length (dB N)≤Go.Vc.maxLen∧List.length (S++(ByteArray.mk #[58,47,47,104,58]).data.toList++List.replicate z 48++dB N)+((ByteArray.mk #[47,112]).data.toList).length≤Go.Vc.maxLen∧(List.length (S++(ByteArray.mk #[58,47,47,104,58]).data.toList++List.replicate z 48++dB N++(ByteArray.mk #[47,112]).data.toList)).le 60000)∧
  (65535<N→(aS (S++(ByteArray.mk #[58,47,47,104,58]).data.toList++List.replicate z 48++dB N++(ByteArray.mk #[47,112]).data.toList)).2=8)∧
  (¬65535<N→(aS (S++(ByteArray.mk #[58,47,47,104,58]).data.toList++List.replicate z 48++dB N++(ByteArray.mk #[47,112]).data.toList)).2=0∧(aS (S++(ByteArray.mk #[58,47,47,104,58]).data.toList++List.replicate z 48++dB N++(ByteArray.mk #[47,112]).data.toList)).1.port=if N=O then -1 else N):=fun N u hN hu=>by
  subst hN
  have ld:=gr u (by omega)
  have e:dB (u:Int)=Lib.decDigits u:=by rw [A8,Int.toNat_natCast]
  rw [e]
  have et:S++(ByteArray.mk #[58,47,47,104,58]).data.toList++List.replicate z 48++Lib.decDigits u++(ByteArray.mk #[47,112]).data.toList=S++58::47::47::104::58::((List.replicate z 48++Lib.decDigits u)++[47,112]):=by
   show S++[58,47,47,104,58]++List.replicate z 48++Lib.decDigits u++[47,112]=_
   simp only [List.append_assoc,List.cons_append,List.nil_append]
  obtain ⟨p1,p2⟩:=An hSO z u
  rw [←et]at p1 p2
  refine ⟨⟨mx _ (by omega),mx _ (by rw [List.length_append];omega),mx _ (by rw [List.length_append,List.length_append];omega),mx _ (by rw [List.length_append,List.length_append,List.length_append];omega),?_⟩,fun h=>p1 (by omega),fun h=>p2 (by omega)⟩
  show List.length _ ≤60000
  rw [List.length_append,List.length_append,List.length_append,List.length_append];omega
 refine ⟨⟨a0,a1,by omega,by omega⟩,⟨c0,c1,by omega,by omega⟩,⟨b0,b1,by omega,by omega⟩,fun _=>hKO,fun h=>?_,fun h=>?_⟩
 ·have h0:0<O:=by
   cases e:decide (aD b (5:Int)=(4:Int))with
   |false=>rw [e]at h;cases h
   |true=>rw [e]at h;exact of_decide_eq_true h
  obtain ⟨u,hu⟩:=Int.eq_ofNat_of_zero_le (Int.le_of_lt h0)
  obtain ⟨⟨f1,f2,f3,f4,f5⟩,f6,f7⟩:=half O u hu (by omega)
  refine ⟨hKO,hKL,f1,⟨b0,b1,by omega,by omega⟩,hZu,f2,⟨by omega,by omega⟩,f3,f4,f5,fun h1=>absurd (of_decide_eq_true h1) (by omega),fun h1=>⟨hKO,fun he=>⟨hKL,G1,G2,fun _=>trivial,?_⟩,fun he=>absurd rfl (of_decide_eq_false he)⟩⟩
  obtain ⟨q1,q2⟩:=f7 (of_decide_eq_false h1)
  rw [if_pos rfl]at q2
  rw [decide_eq_true q1,decide_eq_true q2,decide_eq_true g1,decide_eq_true g2];rfl
 ·obtain ⟨u,hu⟩:=Int.eq_ofNat_of_zero_le hA.1
  obtain ⟨⟨f1,f2,f3,f4,f5⟩,f6,f7⟩:=half (aD a 70000) u hu (by omega)
  refine ⟨hKL,f1,⟨b0,b1,by omega,by omega⟩,hZu,f2,⟨by omega,by omega⟩,f3,f4,f5,fun h1=>⟨fun _=>trivial,?_⟩,fun h1=>⟨hKO,fun he=>⟨hKL,G1,G2,fun _=>trivial,?_⟩,fun he=>⟨hKL,G1,G2,fun _=>trivial,?_⟩⟩⟩
  ·rw [decide_eq_true (f6 (of_decide_eq_true h1))];rfl
  ·obtain ⟨q1,q2⟩:=f7 (of_decide_eq_false h1)
   rw [if_pos (of_decide_eq_true he)]at q2
   rw [decide_eq_true q1,decide_eq_true q2,decide_eq_true g1,decide_eq_true g2];rfl
  ·obtain ⟨q1,q2⟩:=f7 (of_decide_eq_false h1)
   rw [if_neg (of_decide_eq_false he)]at q2
   rw [decide_eq_true q1,decide_eq_true q2,decide_eq_true g1,decide_eq_true g2];rfl)
end
theorem r6(a0:Int)(a1:Int)(a2:Int)(w:World)(w0:(Lit.int .i64 a0).wf=true)(w1:(Lit.int .i64 a1).wf=true)(w2:(Lit.int .i64 a2).wf=true)(htab:oL w):
 Calls Tryz.prog 7 #[.int .i64 a0,.int .i64 a1,.int .i64 a2] w fun e w'=>e=.returned (.bool true)∧Below w.heap.size w w':=by
 have h0:=K9 w0
 have h1:=K9 w1
 have h2:=K9 w2
 have hx:ar [.int .i64 a0,.int .i64 a1,.int .i64 a2] (iB (fun _ _=>none)) w [.int .i64 a0,.int .i64 a1,.int .i64 a2]:=
  ⟨_,_,rfl,rfl,⟨_,_,rfl,rfl,⟨_,_,rfl,rfl,rfl⟩⟩⟩
 refine (ag.walk (fn:=Tryz.f7) Tryz.func7 (by kernel_rfl) rfl (Gt a0 a1 a2) (⟨h0.1,h0.2,h1.1,h1.2,h2.1,h2.2⟩) (fun b o u h=>by cases h) (yP _) htab hx).mono fun e w' ⟨u,he,F',_,hb,_,_,_,_,hu⟩=>⟨by rw [he];exact congrArg _ hu,hb⟩
end Go.Proofs.YtmfapopclbnlpaaGreatDoor
