package engine

import (
	"slices"

	"lantern/api"
	"lantern/plan"
)

func between(n, low, high int) bool { return low <= n && n <= high }

// mayBe tells whether a configuration may be.
func mayBe(c api.Config) bool {
	return between(c.Id, 1, api.MaxNum) &&
		peersMayBe(c) &&
		servicesMayBe(c.Services) &&
		contactsMayBe(c) &&
		between(c.Rules.Retry, 1, api.MaxRetry) &&
		between(c.Rules.Cycles, 1, api.MaxCycles) &&
		between(c.Sessions, 1, api.MaxSessions) &&
		between(c.Hold, 1, api.MaxHold) &&
		between(c.Idle, 1, api.MaxTimer) &&
		between(c.Every, 0, api.MaxBlock) &&
		between(c.Queue, 1, api.MaxQueue) &&
		between(c.Compact, 1, api.MaxNum)
}

func peersMayBe(c api.Config) bool {
	if !between(len(c.Peers), 1, api.MaxPeers) {
		return false
	}
	for i, p := range c.Peers {
		if p.Id == c.Id || isPeer(c.Peers[:i], p.Id) || !peerMayBe(p) {
			return false
		}
	}
	return true
}

func peerMayBe(p api.Peer) bool {
	return between(p.Id, 1, api.MaxNum) &&
		between(p.Mtu, api.MinMtu, api.MaxMtu) &&
		between(p.Timeout, 1, api.MaxTimer)
}

// isPeer tells whether there is a peer of that number.
func isPeer(l []api.Peer, id int) bool {
	return slices.ContainsFunc(l, func(p api.Peer) bool { return p.Id == id })
}

func servicesMayBe(l []int) bool {
	if len(l) > api.MaxServices {
		return false
	}
	for i, n := range l {
		if !between(n, 0, api.MaxNum) || slices.Contains(l[:i], n) {
			return false
		}
	}
	return true
}

func contactsMayBe(c api.Config) bool {
	if plan.Right(c.Contacts) != api.OK {
		return false
	}
	for _, x := range c.Contacts {
		if !isPeer(c.Peers, x.Peer) {
			return false
		}
	}
	return true
}

// copyOf is a configuration that has no memory in common with c.
func copyOf(c api.Config) api.Config {
	c.Peers, c.Services, c.Contacts = slices.Clone(c.Peers), slices.Clone(c.Services), slices.Clone(c.Contacts)
	return c
}
