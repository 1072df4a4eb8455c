// Package chain: see doc/01-chain.md.
package chain

import (
	"slices"
	"sort"

	"vaultage/api"
)

// Chain is the versions of one key. There is always a first one, and each
// version's At is above that of the one ahead: Read and Clear search by that.
type Chain struct{ versions []api.Version }

// Key tells whether there is such a key.
func Key(k int) bool { return 0 <= k && k < api.MaxKeys }

// Check tells what is wrong with a value; 0: nothing.
func Check(v api.Value) int {
	switch {
	case len(v.Bytes) > api.MaxValue:
		return api.ErrLong
	case !v.There && v.Bytes != "":
		return api.ErrForm
	}
	return 0
}

// New has one version, so that every commit has a version not above it.
func New() *Chain { return &Chain{versions: []api.Version{{}}} }

// Put adds a version: since the commit at the key has that value.
func (c *Chain) Put(at int, v api.Value) int {
	if code := Check(v); code != 0 {
		return code
	}
	if at <= c.Last() {
		return api.ErrOrder
	}
	c.versions = append(c.versions, api.Version{At: at, V: v})
	return 0
}

// Last is At of the last version.
func (c *Chain) Last() int { return c.versions[len(c.versions)-1].At }

// First is At of the first version.
func (c *Chain) First() int { return c.versions[0].At }

// Read tells what the key had behind the commit at.
func (c *Chain) Read(at int) (api.Value, int) {
	if at < 0 {
		return api.Value{}, api.ErrRange
	}
	if at < c.First() {
		return api.Value{}, api.ErrOld
	}
	return c.versions[c.countUpTo(at)-1].V, 0
}

// Clear forgets what no commit from least on can see, and tells how many
// versions that were.
func (c *Chain) Clear(least int) int {
	// The last version up to least stays: it is what the key had then.
	forgotten := c.countUpTo(least) - 1
	if forgotten <= 0 {
		return 0
	}
	// A cut of the old list would hold on to what is forgotten.
	c.versions = slices.Clone(c.versions[forgotten:])
	return forgotten
}

// List tells all versions, by their At.
func (c *Chain) List() []api.Version { return slices.Clone(c.versions) }

// countUpTo tells how many versions have an At that is not above at.
func (c *Chain) countUpTo(at int) int {
	return sort.Search(len(c.versions), func(i int) bool { return c.versions[i].At > at })
}
