package profile_test

import (
	"slices"
	"testing"

	"watchword/profile"
)

// TestLengths takes profiles that exist, and others.
func TestLengths(t *testing.T) {
	check := func(number int, want ...int) {
		t.Helper()
		got := []int{profile.KeyLen(number), profile.ConfounderLen(number), profile.TagLen(number), profile.SumLen(number)}
		if !slices.Equal(got, want) {
			t.Errorf("profile %d: %v instead of %v", number, got, want)
		}
	}
	for range 2 {
		check(1, 16, 16, 16, 16)
		check(2, 32, 16, 32, 32)
		for _, number := range otherProfiles {
			check(number, 0, 0, 0, 0)
		}
	}
	for number := -1000; number <= 1000; number++ {
		if number != 1 && number != 2 {
			check(number, 0, 0, 0, 0)
		}
	}
}

// TestProfiles goes through the profiles, leaves the loop early, and uses the iterator again, also inside of its own loop.
func TestProfiles(t *testing.T) {
	all := profile.Profiles()
	whole := func() {
		t.Helper()
		var got []row
		for number, name := range all {
			got = append(got, row{profile: number, name: name})
		}
		if want := []row{{profile: 1, name: "aes128-cts-hmac-sha256-128"}, {profile: 2, name: "stream-hmac-sha256-256"}}; !slices.Equal(got, want) {
			t.Errorf("%v instead of %v", got, want)
		}
	}
	// The order must not be that of a map, which changes from time to time.
	for range 100 {
		whole()
	}
	for range 100 {
		count := 0
		for number, name := range all {
			count++
			if number != 1 || name != "aes128-cts-hmac-sha256-128" {
				t.Errorf("the first one is %d, %s", number, name)
			}
			break
		}
		if count != 1 {
			t.Errorf("%d profiles before the loop was left", count)
		}
	}
	for range all {
		whole()
	}
	whole()
}

// TestProfilesLengths compares the profiles that are yielded with those that exist.
func TestProfilesLengths(t *testing.T) {
	count := 0
	for number := range profile.Profiles() {
		count++
		if profile.KeyLen(number) == 0 {
			t.Errorf("profile %d has no key", number)
		}
	}
	if count != len(rows) {
		t.Errorf("%d profiles", count)
	}
}
